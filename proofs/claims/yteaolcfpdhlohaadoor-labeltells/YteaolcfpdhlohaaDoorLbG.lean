/- Of and Named, the program's and the document's. -/
import Derived.Test.YteaolcfpdhlohaaDoorLbF
namespace Go.Proofs.YteaolcfpdhlohaaDoor
open Go.RowKit
set_option maxRecDepth 100000
set_option linter.unusedSimpArgs false


set_option maxHeartbeats 2000000 in
theorem named_none (l : List Lb.Si) (hlen : l.length ≤ 2199023255552) (b : Int) (h : -9223372036854775808 ≤ b) (h' : b ≤ 9223372036854775807) (hs : Lb.site l b = none) (v : Value) (w : World) (hl : IsSites w v l) :
    Calls Tryd.prog 13 #[v, .int .i64 b] w fun e w' => e = .returned (.tuple #[.string ⟨#[]⟩, .int .i64 1]) ∧ Below w.heap.size w w' := by
  have hof := of_none l hlen b h h' hs v w hl
  clear hs hl
  go_enter Tryd.func13, Tryd.ntmps13
  go_wp2_with (go_at_call 11; refine hof.mono ?_; rintro e w1 ⟨rfl, hB1⟩)
  go_ret2
  exact ⟨rfl, by repeat (first | exact hB1 | exact Below.refl _ _ | refine bset ?_ | refine balloc ?_ _)⟩

set_option maxHeartbeats 2000000 in
theorem named_some (l : List Lb.Si) (hlen : l.length ≤ 2199023255552) (b : Int) (h : -9223372036854775808 ≤ b) (h' : b ≤ 9223372036854775807) (x : Lb.Si) (hs : Lb.site l b = some x) (v : Value) (w : World) (hl : IsSites w v l) :
    Calls Tryd.prog 13 #[v, .int .i64 b] w fun e w' => e = .returned (.tuple #[.string (Lb.who x b), .int .i64 0]) ∧ Below w.heap.size w w' := by
  have hof := of_some l hlen b h h' x hs v w hl
  have ht := side_any b h h'
  clear hs hl
  generalize Lb.lab b = n at *
  by_cases hp : 0 < b
  · have hi : Lb.ins b = true := by unfold Lb.ins; simpa using hp
    rw [hi] at ht
    by_cases hr : x.ru = 18
    · have HW : Aside (Lb.who x b = x.e) := by show _ = _; unfold Lb.who; rw [if_pos ⟨hr, hp⟩]
      have hr' : (x.ru == 18) = true := by simpa using hr
      clear hi hr
      go_enter Tryd.func13, Tryd.ntmps13
      go_wp2_with (first | (go_at_call 11; refine hof.mono ?_; rintro e w1 ⟨rfl, hB1⟩) | (go_at_call 9; refine (ht _).mono ?_; rintro e w2 ⟨rfl, hw2⟩; replace hw2 := hw2.symm; subst hw2) | (go_at_call 30; refine (isBorder_any x _).mono ?_; rintro e w3 ⟨rfl, hB3⟩; obtain ⟨hc3, hf3⟩ := bcell hB3))
      go_ret2
      exact ⟨ret_text HW.out.symm, by repeat (first | exact hB1 | exact Below.refl _ _ | refine bset ?_ | refine balloc ?_ _ | refine bt ?_ (by assumption))⟩
    · have HW : Aside (Lb.who x b = x.m) := by show _ = _; unfold Lb.who; rw [if_neg (fun h => hr h.1)]
      have hr' : (x.ru == 18) = false := by simpa using hr
      clear hi hr
      go_enter Tryd.func13, Tryd.ntmps13
      go_wp2_with (first | (go_at_call 11; refine hof.mono ?_; rintro e w1 ⟨rfl, hB1⟩) | (go_at_call 9; refine (ht _).mono ?_; rintro e w2 ⟨rfl, hw2⟩; replace hw2 := hw2.symm; subst hw2) | (go_at_call 30; refine (isBorder_any x _).mono ?_; rintro e w3 ⟨rfl, hB3⟩; obtain ⟨hc3, hf3⟩ := bcell hB3))
      go_ret2
      exact ⟨ret_text HW.out.symm, by repeat (first | exact hB1 | exact Below.refl _ _ | refine bset ?_ | refine balloc ?_ _ | refine bt ?_ (by assumption))⟩
  · have hi : Lb.ins b = false := by unfold Lb.ins; simpa using hp
    rw [hi] at ht
    have HW : Aside (Lb.who x b = x.m) := by show _ = _; unfold Lb.who; rw [if_neg (fun h => hp h.2)]
    clear hi
    by_cases hr : (x.ru == 18) = true
    all_goals
      go_enter Tryd.func13, Tryd.ntmps13
      go_wp2_with (first | (go_at_call 11; refine hof.mono ?_; rintro e w1 ⟨rfl, hB1⟩) | (go_at_call 9; refine (ht _).mono ?_; rintro e w2 ⟨rfl, hw2⟩; replace hw2 := hw2.symm; subst hw2) | (go_at_call 30; refine (isBorder_any x _).mono ?_; rintro e w3 ⟨rfl, hB3⟩; obtain ⟨hc3, hf3⟩ := bcell hB3))
      go_ret2
      exact ⟨ret_text HW.out.symm, by repeat (first | exact hB1 | exact Below.refl _ _ | refine bset ?_ | refine balloc ?_ _ | refine bt ?_ (by assumption))⟩

set_option maxHeartbeats 2000000 in
theorem refNamed_none (l : List Lb.Si) (hlen : l.length ≤ 2199023255552) (b : Int) (h : -9223372036854775808 ≤ b) (h' : b ≤ 9223372036854775807) (hs : Lb.site l b = none) (v : Value) (w : World) (hl : IsSites w v l) :
    Calls Tryd.prog 14 #[v, .int .i64 b] w fun e w' => e = .returned (.tuple #[.string ⟨#[]⟩, .int .i64 1]) ∧ Below w.heap.size w w' := by
  have hof := refOf_none l hlen b h h' hs v w hl
  clear hs hl
  go_enter Tryd.func14, Tryd.ntmps14
  go_wp2_with (go_at_call 12; refine hof.mono ?_; rintro e w1 ⟨rfl, hB1⟩)
  go_ret2
  exact ⟨rfl, by repeat (first | exact hB1 | exact Below.refl _ _ | refine bset ?_ | refine balloc ?_ _)⟩

set_option maxHeartbeats 2000000 in
theorem refNamed_some (l : List Lb.Si) (hlen : l.length ≤ 2199023255552) (b : Int) (h : -9223372036854775808 ≤ b) (h' : b ≤ 9223372036854775807) (x : Lb.Si) (hs : Lb.site l b = some x) (v : Value) (w : World) (hl : IsSites w v l) :
    Calls Tryd.prog 14 #[v, .int .i64 b] w fun e w' => e = .returned (.tuple #[.string (Lb.who x b), .int .i64 0]) ∧ Below w.heap.size w w' := by
  have hof := refOf_some l hlen b h h' x hs v w hl
  have ht := refSide_any b h h'
  clear hs hl
  generalize Lb.lab b = n at *
  by_cases hp : 0 < b
  · have hi : Lb.ins b = true := by unfold Lb.ins; simpa using hp
    rw [hi] at ht
    by_cases hr : x.ru = 18
    · have HW : Aside (Lb.who x b = x.e) := by show _ = _; unfold Lb.who; rw [if_pos ⟨hr, hp⟩]
      have hr' : (x.ru == 18) = true := by simpa using hr
      clear hi hr
      go_enter Tryd.func14, Tryd.ntmps14
      go_wp2_with (first | (go_at_call 12; refine hof.mono ?_; rintro e w1 ⟨rfl, hB1⟩) | (go_at_call 10; refine (ht _).mono ?_; rintro e w2 ⟨rfl, hw2⟩; replace hw2 := hw2.symm; subst hw2))
      go_ret2
      exact ⟨ret_text HW.out.symm, by repeat (first | exact hB1 | exact Below.refl _ _ | refine bset ?_ | refine balloc ?_ _ | refine bt ?_ (by assumption))⟩
    · have HW : Aside (Lb.who x b = x.m) := by show _ = _; unfold Lb.who; rw [if_neg (fun h => hr h.1)]
      have hr' : (x.ru == 18) = false := by simpa using hr
      clear hi hr
      go_enter Tryd.func14, Tryd.ntmps14
      go_wp2_with (first | (go_at_call 12; refine hof.mono ?_; rintro e w1 ⟨rfl, hB1⟩) | (go_at_call 10; refine (ht _).mono ?_; rintro e w2 ⟨rfl, hw2⟩; replace hw2 := hw2.symm; subst hw2))
      go_ret2
      exact ⟨ret_text HW.out.symm, by repeat (first | exact hB1 | exact Below.refl _ _ | refine bset ?_ | refine balloc ?_ _ | refine bt ?_ (by assumption))⟩
  · have hi : Lb.ins b = false := by unfold Lb.ins; simpa using hp
    rw [hi] at ht
    have HW : Aside (Lb.who x b = x.m) := by show _ = _; unfold Lb.who; rw [if_neg (fun h => hp h.2)]
    clear hi
    by_cases hr : (x.ru == 18) = true
    all_goals
      go_enter Tryd.func14, Tryd.ntmps14
      go_wp2_with (first | (go_at_call 12; refine hof.mono ?_; rintro e w1 ⟨rfl, hB1⟩) | (go_at_call 10; refine (ht _).mono ?_; rintro e w2 ⟨rfl, hw2⟩; replace hw2 := hw2.symm; subst hw2))
      go_ret2
      exact ⟨ret_text HW.out.symm, by repeat (first | exact hB1 | exact Below.refl _ _ | refine bset ?_ | refine balloc ?_ _ | refine bt ?_ (by assumption))⟩
end Go.Proofs.YteaolcfpdhlohaaDoor
