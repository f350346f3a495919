/- What the program's Words answers. -/
import Derived.Test.YtncnkojbpdemdaaGreatDoorPen
namespace Go.Proofs.YtncnkojbpdemdaaGreatDoor
open Go.RowKit

set_option maxRecDepth 100000 in
set_option maxHeartbeats 1000000 in
theorem words_no (s : ByteArray) (h : (Tp.chk s.data.toList).1 ≠ 0) (w : World) :
    Calls Tryz.prog 9 #[.string s] w fun e w' => e = .returned (.tuple #[.string ⟨#[]⟩, .int .i64 (Tp.chk s.data.toList).1]) ∧ w' = w := by
  have h' : (((Tp.chk s.data.toList).1 : Int) != 0) = true := by simpa using h
  go_enter Tryz.func9, Tryz.ntmps9
  go_wp2_with (go_at_call 5; refine (check_any _ _).mono ?_; rintro e w' ⟨rfl, rfl⟩)
  go_ret2
  exact ⟨rfl, rfl⟩

theorem pen_new (w : World) : Pen (w.alloc (.cells #[.pointer none, .slice none 0 0] 67)) w.heap.size [] :=
  .inl ⟨Nat.le_refl _, _, heap_alloc_new _ _, World.ownsRowF_nil _ _ _ _, by simp [Value.ownBlock]⟩
theorem wd_ne (t : Tp.Ty) : Tp.wd t ≠ [] := by
  cases t <;> simp [Tp.wd]

set_option maxRecDepth 100000 in
set_option maxHeartbeats 1000000 in
theorem words_yes (t : Tp.Ty) (h : (Tp.enc t).length ≤ 64) (w : World) :
    Calls Tryz.prog 9 #[.string (S (Tp.enc t))] w fun e w' => e = .returned (.tuple #[.string (S (Tp.wd t)), .int .i64 0]) ∧ Below w.heap.size w w' := by
  have hc : (((Tp.chk (S (Tp.enc t)).data.toList).1 : Int) != 0) = false := by rw [S_list, Tp.chk_enc t h]; rfl
  go_enter Tryz.func9, Tryz.ntmps9
  go_wp2_with (go_at_call 5; refine (check_any _ _).mono ?_; rintro e w' ⟨rfl, hw'⟩; replace hw' := hw'.symm; subst hw')
  refine (wholeOk 64 t h h w.heap.size [] _ (pen_new w) (by simp; omega)).mono ?_
  rintro e w1 ⟨rfl, p1, k1⟩
  rw [List.nil_append] at p1
  go_wp2_with (go_at_call 30; refine (string_any _ _ _ p1 (wd_ne t)).mono ?_; rintro e w2 ⟨rfl, hB2, _⟩)
  go_ret2
  exact ⟨rfl, ((Below.refl _ _).alloc (Nat.le_refl _) _).trans ((k1.1.mono (Nat.le_refl _)).trans hB2)⟩
end Go.Proofs.YtncnkojbpdemdaaGreatDoor
