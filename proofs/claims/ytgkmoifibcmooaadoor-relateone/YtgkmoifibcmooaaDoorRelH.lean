/- The known function, at either end. -/
import Derived.Test.YtgkmoifibcmooaaDoorRelG
namespace Go.Proofs.YtgkmoifibcmooaaDoor
open Go.RowKit
set_option maxRecDepth 100000

theorem live_meet (w : World) : Calls Tryd.prog 40 #[.string ⟨#[62, 105, 63]⟩, .string ⟨#[62, 63, 98]⟩] w fun e w' => e = .returned (.tuple #[.string ⟨#[62, 105, 98]⟩, .int .i64 0]) ∧ Below w.heap.size w w' :=
  meet_yes (.tf .ti .tq) (.tf .tq .tb) (by decide) (by decide) w
theorem live_join (w : World) : Calls Tryd.prog 41 #[.string ⟨#[62, 105, 98]⟩, .string ⟨#[62, 105, 105]⟩] w fun e w' => e = .returned (.tuple #[.string ⟨#[62, 105, 63]⟩, .int .i64 0]) ∧ Below w.heap.size w w' :=
  join_yes (.tf .ti .tb) (.tf .ti .ti) (by decide) (by decide) w
theorem live_loose (w : World) : Calls Tryd.prog 7 #[.string ⟨#[62, 105, 105]⟩] w fun e w' => ∃ a c, e = .returned (.slice a 2 c) ∧ Below w.heap.size w w' := by
  refine (looser_yes (.tf .ti .ti) (by decide) w).mono ?_
  rintro e w' ⟨v, rfl, hown, hB⟩
  obtain ⟨a, c, rfl⟩ := own_len hown
  exact ⟨a, c, rfl, hB⟩
theorem live_c1 (w : World) : Calls Tryd.prog 42 #[.string ⟨#[105]⟩, .string ⟨#[63]⟩] w fun e w' => e = .returned (.bool true) ∧ Below w.heap.size w w' := consistent_yes .ti .tq (by decide) (by decide) w
theorem live_c2 (w : World) : Calls Tryd.prog 42 #[.string ⟨#[105]⟩, .string ⟨#[98]⟩] w fun e w' => e = .returned (.bool false) ∧ Below w.heap.size w w' := consistent_yes .ti .tb (by decide) (by decide) w
theorem live_p1 (w : World) : Calls Tryd.prog 43 #[.string ⟨#[105]⟩, .string ⟨#[63]⟩] w fun e w' => e = .returned (.bool true) ∧ Below w.heap.size w w' := precise_yes .ti .tq (by decide) (by decide) w
theorem live_p2 (w : World) : Calls Tryd.prog 43 #[.string ⟨#[63]⟩, .string ⟨#[105]⟩] w fun e w' => e = .returned (.bool false) ∧ Below w.heap.size w w' := precise_yes .tq .ti (by decide) (by decide) w

set_option maxHeartbeats 1000000 in
theorem live_match (w : World) : Calls Tryd.prog 5 #[.string ⟨#[63]⟩, .int .u8 44] w fun e w' => ∃ a c, e = .returned (.tuple #[.slice a 2 c, .bool true]) ∧ Below w.heap.size w w' := by
  have hc := fun w => rcheck1 w [63]
  rw [show Tp.firstBad [[63]] = 0 from rfl, show S [63] = ⟨#[63]⟩ from rfl] at hc
  have hh : ∀ w, Calls Tryd.prog 14 #[.string ⟨#[63]⟩] w fun e w' => e = .returned (.int .u8 63) ∧ w' = w := fun w => head_yes .tq (by decide) w
  have hs : (⟨#[63]⟩ : ByteArray).toList = [63] := by rw [ByteArray.toList_eq]
  go_enter Tryd.func5, Tryd.ntmps5
  go_wp2_with (first | (go_at_call 13; refine (hc _ _ rfl _ (by simp)).mono ?_; rintro e w' ⟨rfl, hw'⟩; replace hw' := hw'.symm; subst hw') | (go_at_call 14; refine (hh _).mono ?_; rintro e w' ⟨rfl, hw'⟩; replace hw' := hw'.symm; subst hw'))
  go_ret2
  exact ⟨_, _, rfl, ((Below.refl _ _).alloc (Nat.le_refl _) _).alloc (by simp) _⟩

set_option maxHeartbeats 4000000 in
theorem lives_any (w : World) : Calls Tryd.prog 12 #[] w fun e w' => e = .returned (.bool true) ∧ Below w.heap.size w w' := by
  have s1 : (⟨#[62, 105, 98]⟩ : ByteArray).toList = [62, 105, 98] := by rw [ByteArray.toList_eq]
  have s2 : (⟨#[62, 105, 63]⟩ : ByteArray).toList = [62, 105, 63] := by rw [ByteArray.toList_eq]
  go_enter Tryd.func12, Tryd.ntmps12
  go_wp2_with fail
  refine (live_meet _).mono ?_
  rintro e w1 ⟨rfl, b1⟩
  go_wp2_with fail
  refine (live_join _).mono ?_
  rintro e w2 ⟨rfl, b2⟩
  go_wp2_with fail
  refine (live_match _).mono ?_
  rintro e w3 ⟨a3, c3, rfl, b3⟩
  go_wp2_with fail
  refine (live_loose _).mono ?_
  rintro e w4 ⟨a4, c4, rfl, b4⟩
  go_wp2_with fail
  refine (live_c1 _).mono ?_
  rintro e w5 ⟨rfl, b5⟩
  go_wp2_with fail
  refine (live_c2 _).mono ?_
  rintro e w6 ⟨rfl, b6⟩
  go_wp2_with fail
  refine (live_p1 _).mono ?_
  rintro e w7 ⟨rfl, b7⟩
  go_wp2_with fail
  refine (live_p2 _).mono ?_
  rintro e w8 ⟨rfl, b8⟩
  go_wp2_with fail
  go_ret
  have h2 := b1.trans (b2.mono b1.size)
  have h3 := h2.trans (b3.mono h2.size)
  have h4 := h3.trans (b4.mono h3.size)
  have h5 := h4.trans (b5.mono h4.size)
  have h6 := h5.trans (b6.mono h5.size)
  have h7 := h6.trans (b7.mono h6.size)
  exact ⟨rfl, h7.trans (b8.mono h7.size)⟩
end Go.Proofs.YtgkmoifibcmooaaDoor
