/- Turned blames, plain. -/
import Derived.Test.YteaolcfpdhlohaaDoorLbG
namespace Go.Proofs.YteaolcfpdhlohaaDoor
open Go.RowKit
namespace Lb
theorem turn_range {b : Int} (h : -9223372036854775808 ≤ b) (h' : b ≤ 9223372036854775807) : -9223372036854775808 ≤ turn b ∧ turn b ≤ 9223372036854775807 := by
  unfold turn; split <;> omega
theorem lab_turn {b : Int} (h : -9223372036854775808 ≤ b) (h' : b ≤ 9223372036854775807) : lab (turn b) = lab b := by
  unfold lab turn
  by_cases hm : b = -9223372036854775808
  · subst hm; decide
  · rw [if_neg hm]
    by_cases h0 : 0 < b
    · rw [if_neg (by omega), if_neg (by omega), if_pos h0]; omega
    · by_cases h1 : b = 0
      · subst h1; decide
      · rw [if_pos (by omega), if_neg h0]
theorem none_turn {b : Int} (_ : -9223372036854775808 ≤ b) (_ : b ≤ 9223372036854775807) (h0 : lab b = 0) : turn b = 0 ∧ ins b = false ∧ ins (turn b) = false := by
  unfold lab at h0
  by_cases hp : 0 < b
  · rw [if_pos hp] at h0; omega
  · rw [if_neg hp] at h0
    exact ⟨h0, by unfold ins; simpa using hp, by rw [h0]; rfl⟩
theorem some_turn {b : Int} (h : -9223372036854775808 ≤ b) (h' : b ≤ 9223372036854775807) (h0 : lab b ≠ 0) : turn (turn b) = b ∧ ins (turn b) = !ins b ∧ (lab b = b ∨ lab b = -b) ∧ -9223372036854775808 < b := by
  unfold lab turn at h0
  have hm : b ≠ -9223372036854775808 := by
    intro e; subst e; exact h0 (by decide)
  unfold lab turn ins
  rw [if_neg hm] at h0 ⊢
  by_cases hp : 0 < b
  · rw [if_pos hp] at h0 ⊢
    refine ⟨by rw [if_neg (by omega)]; omega, ?_, .inl rfl, by omega⟩
    simp [hp]; omega
  · rw [if_neg hp] at h0 ⊢
    refine ⟨by rw [if_neg (by omega)]; omega, ?_, .inr rfl, by omega⟩
    simp [hp]; omega
theorem site_lab {l : List Si} {b c : Int} (h : lab b = lab c) : site l b = site l c := by unfold site; rw [h]
theorem lab_lab {b : Int} (h : -9223372036854775808 ≤ b) (h' : b ≤ 9223372036854775807) : lab (lab b) = lab b ∧ lab (-(lab b)) = lab b := by
  obtain ⟨r1, r2⟩ := lab_range h h'
  generalize lab b = n at *
  unfold lab turn
  by_cases hp : 0 < n
  · rw [if_pos hp, if_neg (by omega), if_neg (by omega)]; omega
  · obtain rfl : n = 0 := by omega
    decide
end Lb
end Go.Proofs.YteaolcfpdhlohaaDoor
