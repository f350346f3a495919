/- What the document's words and Words answer. -/
import Derived.Test.YtncnkojbpdemdaaGreatDoorRefWf
import Derived.Test.YtncnkojbpdemdaaGreatDoorRefWp
namespace Go.Proofs.YtncnkojbpdemdaaGreatDoor
open Go.RowKit

theorem rwords_any : ∀ t : Tp.Ty, (Tp.enc t).length ≤ 64 → WdC t
  | .ti, _ => words_i
  | .tb, _ => words_b
  | .tt, _ => words_t
  | .tq, _ => words_q
  | .tl a, h => words_l a h (rwords_any a (by simp [Tp.enc] at h; omega))
  | .tx a, h => words_x a h (wrapped_of a (by simp [Tp.enc] at h; omega) (rwords_any a (by simp [Tp.enc] at h; omega)))
  | .tf a b, h => words_f a b h (wrapped_of a (by simp [Tp.enc] at h; omega) (rwords_any a (by simp [Tp.enc] at h; omega))) (rwords_any b (by simp [Tp.enc] at h; omega))
  | .tp a b, h => words_p a b h (rwords_any a (by simp [Tp.enc] at h; omega)) (rwords_any b (by simp [Tp.enc] at h; omega))

set_option maxRecDepth 100000 in
set_option maxHeartbeats 1000000 in
theorem rWords_no (s : ByteArray) (h : (Tp.chk s.data.toList).1 ≠ 0) (w : World) :
    Calls Tryz.prog 10 #[.string s] w fun e w' => e = .returned (.tuple #[.string ⟨#[]⟩, .int .i64 (Tp.chk s.data.toList).1]) ∧ w' = w := by
  have h' : (((Tp.chk s.data.toList).1 : Int) != 0) = true := by simpa using h
  go_enter Tryz.func10, Tryz.ntmps10
  go_wp2_with (go_at_call 6; refine (rcheck_any _ _).mono ?_; rintro e w' ⟨rfl, rfl⟩)
  go_ret2
  exact ⟨rfl, rfl⟩

set_option maxRecDepth 100000 in
set_option maxHeartbeats 1000000 in
theorem rWords_yes (t : Tp.Ty) (h : (Tp.enc t).length ≤ 64) (w : World) :
    Calls Tryz.prog 10 #[.string (S (Tp.enc t))] w fun e w' => e = .returned (.tuple #[.string (S (Tp.wd t)), .int .i64 0]) ∧ Below w.heap.size w w' := by
  have hc : (((Tp.chk (S (Tp.enc t)).data.toList).1 : Int) != 0) = false := by rw [S_list, Tp.chk_enc t h]; rfl
  have hw := rwords_any t h
  unfold WdC at hw
  generalize S (Tp.enc t) = s at *
  generalize S (Tp.wd t) = v at *
  go_enter Tryz.func10, Tryz.ntmps10
  go_wp2_with (first | (go_at_call 6; refine (rcheck_any _ _).mono ?_; rintro e w' ⟨rfl, hw'⟩; replace hw' := hw'.symm; subst hw') | (go_at_call 31; refine (hw _).mono ?_; rintro e w1 ⟨rfl, hB1⟩))
  go_ret2
  exact ⟨rfl, hB1⟩

end Go.Proofs.YtncnkojbpdemdaaGreatDoor
