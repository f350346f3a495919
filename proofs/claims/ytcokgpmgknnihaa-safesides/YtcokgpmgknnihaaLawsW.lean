/- The calls of SafeSides, SafePrecise and SafeSame: they return true, whatever the texts. -/
import Derived.Test.YtcokgpmgknnihaaSafeH
import Derived.Test.YtcokgpmgknnihaaRefC
namespace Go.Proofs.Ytcokgpmgknnihaa
open Go.RowKit
set_option maxRecDepth 100000

theorem good_yes {s : ByteArray} {a : Tp.Ty} (h : IsTy s a) (w : World) : Calls Try.prog 6 #[.string s] w fun e w' => e = .returned (.bool true) ∧ w' = w := by
  have := good_any s w; rw [h.chk] at this; exact this
theorem good_no {s : ByteArray} (h : (Tp.chk s.data.toList).1 ≠ 0) (w : World) : Calls Try.prog 6 #[.string s] w fun e w' => e = .returned (.bool false) ∧ w' = w := by
  have := good_any s w
  rw [show ((Tp.chk s.data.toList).1 == 0) = false by simpa using h] at this; exact this

/-- What the calls of the program and of the document tell of two texts. -/
structure Tells (s t : ByteArray) (x y : Bool) : Prop where
  sides : ∀ w : World, Calls Try.prog 9 #[.string s, .string t] w fun e w' => e = .returned (.tuple #[.bool x, .bool y]) ∧ Below w.heap.size w w'
  plus : ∀ w : World, Calls Try.prog 10 #[.string s, .string t] w fun e w' => e = .returned (.bool x) ∧ Below w.heap.size w w'
  minus : ∀ w : World, Calls Try.prog 11 #[.string s, .string t] w fun e w' => e = .returned (.bool y) ∧ Below w.heap.size w w'
theorem Tells.by {s t : ByteArray} {x y : Bool} (h : ∀ w : World, Calls Try.prog 9 #[.string s, .string t] w fun e w' => e = .returned (.tuple #[.bool x, .bool y]) ∧ Below w.heap.size w w') : Tells s t x y := ⟨h, plus_by h, minus_by h⟩

set_option maxHeartbeats 2000000 in
theorem safeSides_any (s t : ByteArray) (w : World) :
    Calls Try.prog 3 #[.string s, .string t] w fun e w' => e = .returned (.bool true) ∧ Below w.heap.size w w' := by
  have hw := works_any
  have hB := Below.refl w.heap.size w
  by_cases hs : (Tp.chk s.data.toList).1 = 0
  · obtain ⟨a, ha⟩ := isTy_of hs
    have g1 := good_yes ha
    by_cases ht : (Tp.chk t.data.toList).1 = 0
    · obtain ⟨b, hb⟩ := isTy_of ht
      have g2 := good_yes hb
      have r1 : ∀ w : World, Calls Try.prog 7 #[.string s, .string t] w fun e w' => e = .returned (.bool (Tp.pls a b)) ∧ Below w.heap.size w w' := fun w => by rw [ha.eq, hb.eq]; exact rplus_any a b w ha.len hb.len
      have r2 : ∀ w : World, Calls Try.prog 8 #[.string s, .string t] w fun e w' => e = .returned (.bool (Tp.mns a b)) ∧ Below w.heap.size w w' := fun w => by rw [ha.eq, hb.eq]; exact rminus_any a b w ha.len hb.len
      obtain ⟨c1, c2, c3⟩ := Tells.by (sides_of ha hb)
      generalize Tp.pls a b = P at *
      generalize Tp.mns a b = M at *
      clear hs ht ha hb
      go_enter Try.func3, Try.ntmps3
      go_wp2_with (first | (go_at_call_of 6 s; refine (g1 _).mono ?_; rintro e w' ⟨rfl, hw'⟩; replace hw' := hw'.symm; subst hw') | (go_at_call_of 6 t; refine (g2 _).mono ?_; rintro e w' ⟨rfl, hw'⟩; replace hw' := hw'.symm; subst hw') | (go_at_call 7; refine (r1 _).mono ?_; rintro e w' ⟨rfl, hB'⟩; have hB := hB.trans (hB'.mono hB.size); clear hB') | (go_at_call 8; refine (r2 _).mono ?_; rintro e w' ⟨rfl, hB'⟩; have hB := hB.trans (hB'.mono hB.size); clear hB') | (go_at_call 9; refine (c1 _).mono ?_; rintro e w' ⟨rfl, hB'⟩; have hB := hB.trans (hB'.mono hB.size); clear hB') | (go_at_call 10; refine (c2 _).mono ?_; rintro e w' ⟨rfl, hB'⟩; have hB := hB.trans (hB'.mono hB.size); clear hB') | (go_at_call 11; refine (c3 _).mono ?_; rintro e w' ⟨rfl, hB'⟩; have hB := hB.trans (hB'.mono hB.size); clear hB') | (go_at_call 12; refine (hw _).mono ?_; rintro e w' ⟨rfl, hB'⟩; have hB := hB.trans (hB'.mono hB.size); clear hB'))
      go_ret
      exact ⟨rfl, hB⟩
    · have g2 := good_no ht
      obtain ⟨c1, c2, c3⟩ := Tells.by (sides_no s t (.inr ht))
      clear hs ht ha
      go_enter Try.func3, Try.ntmps3
      go_wp2_with (first | (go_at_call_of 6 s; refine (g1 _).mono ?_; rintro e w' ⟨rfl, hw'⟩; replace hw' := hw'.symm; subst hw') | (go_at_call_of 6 t; refine (g2 _).mono ?_; rintro e w' ⟨rfl, hw'⟩; replace hw' := hw'.symm; subst hw') | (go_at_call 9; refine (c1 _).mono ?_; rintro e w' ⟨rfl, hB'⟩; have hB := hB.trans (hB'.mono hB.size); clear hB') | (go_at_call 10; refine (c2 _).mono ?_; rintro e w' ⟨rfl, hB'⟩; have hB := hB.trans (hB'.mono hB.size); clear hB') | (go_at_call 11; refine (c3 _).mono ?_; rintro e w' ⟨rfl, hB'⟩; have hB := hB.trans (hB'.mono hB.size); clear hB') | (go_at_call 12; refine (hw _).mono ?_; rintro e w' ⟨rfl, hB'⟩; have hB := hB.trans (hB'.mono hB.size); clear hB'))
      go_ret
      exact ⟨rfl, hB⟩
  · have g1 := good_no hs
    obtain ⟨c1, c2, c3⟩ := Tells.by (sides_no s t (.inl hs))
    clear hs
    go_enter Try.func3, Try.ntmps3
    go_wp2_with (first | (go_at_call 6; refine (g1 _).mono ?_; rintro e w' ⟨rfl, hw'⟩; replace hw' := hw'.symm; subst hw') | (go_at_call 9; refine (c1 _).mono ?_; rintro e w' ⟨rfl, hB'⟩; have hB := hB.trans (hB'.mono hB.size); clear hB') | (go_at_call 10; refine (c2 _).mono ?_; rintro e w' ⟨rfl, hB'⟩; have hB := hB.trans (hB'.mono hB.size); clear hB') | (go_at_call 11; refine (c3 _).mono ?_; rintro e w' ⟨rfl, hB'⟩; have hB := hB.trans (hB'.mono hB.size); clear hB') | (go_at_call 12; refine (hw _).mono ?_; rintro e w' ⟨rfl, hB'⟩; have hB := hB.trans (hB'.mono hB.size); clear hB'))
    go_ret
    exact ⟨rfl, hB⟩
end Go.Proofs.Ytcokgpmgknnihaa
