/- CoerceThens, the law's own walk. -/
import Derived.Test.YtaaokecdmbmgbaaGreatDoorUbs
import Derived.Test.YtaaokecdmbmgbaaGreatDoorUbt
import Derived.Test.YtaaokecdmbmgbaaGreatDoorUbu
import Derived.Test.YtaaokecdmbmgbaaGreatDoorUbv
namespace Go.Proofs.YtaaokecdmbmgbaaGreatDoor
open Go.RowKit Cc
set_option maxRecDepth 100000
set_option linter.unusedSimpArgs false
set_option linter.unusedVariables false
set_option maxHeartbeats 800000 in
theorem thens_long (ls lt : List N) (vs vt : Value) (w : World) (h1 : IsCos w vs ls) (h2 : IsCos w vt lt) (hl : 16384 < ls.length ∨ 16384 < lt.length) :
    Calls Tryz.prog 3 #[vs, vt] w fun e w' => e = .returned (.bool true) ∧ Below w.heap.size w w' := by
  obtain ⟨sa, sc, rfl⟩ := h1.form
  obtain ⟨ta, tc, rfl⟩ := h2.form
  have cl1 := longT_any sa ls.length sc
  have cl2 := longT_any ta lt.length tc
  have cw := worksT_at w
  clear h1 h2
  by_cases h : 16384 < ls.length
  · rw [decide_eq_true h] at cl1
    clear cl2
    go_enter Tryz.func3, Tryz.ntmps3
    go_wp2_with (first | (go_at_call 5; refine (cl1 _).mono ?_; rintro e w1 ⟨rfl, rfl⟩) | (go_at_call 6; refine (cw _ (Below.refl _ _)).mono ?_; rintro e w9 ⟨rfl, hB⟩))
    go_ret
    exact ⟨rfl, hB⟩
  · rw [decide_eq_false h] at cl1
    rw [decide_eq_true (hl.resolve_left h)] at cl2
    go_enter Tryz.func3, Tryz.ntmps3
    go_wp2_with (first | (go_at_call 5; with_reducible refine (cl1 _).mono ?_; rintro e w1 ⟨rfl, hw1⟩; replace hw1 := hw1.symm; subst hw1; clear cl1) | (go_at_call 5; with_reducible refine (cl2 _).mono ?_; rintro e w1 ⟨rfl, hw1⟩; replace hw1 := hw1.symm; subst hw1; clear cl2) | (go_at_call 6; refine (cw _ (Below.refl _ _)).mono ?_; rintro e w9 ⟨rfl, hB⟩))
    go_ret
    exact ⟨rfl, hB⟩
theorem thens_any (ls lt : List N) (vs vt : Value) (w : World) (h1 : IsCos w vs ls) (h2 : IsCos w vt lt) :
    Calls Tryz.prog 3 #[vs, vt] w fun e w' => e = .returned (.bool true) ∧ Below w.heap.size w w' := by
  by_cases hl : 16384 < ls.length ∨ 16384 < lt.length
  · exact thens_long ls lt vs vt w h1 h2 hl
  · cases hn : Cc.whole ls with
    | none => cases hq : Cc.whole lt with
      | none => exact thens_n1 ls lt vs vt w h1 h2 (by omega) (by omega) hn hq
      | some d => exact thens_n2 ls lt d vs vt w h1 h2 (by omega) (by omega) hn hq
    | some c => cases hq : Cc.whole lt with
      | none => exact thens_s ls lt c vs vt w h1 h2 (by omega) (by omega) hn hq
      | some d => exact thens_b ls lt c d vs vt w h1 h2 (by omega) (by omega) hn hq
end Go.Proofs.YtaaokecdmbmgbaaGreatDoor
