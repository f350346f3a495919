/- LabelTurns returns true. -/
import Derived.Test.YteaolcfpdhlohaaDoorLbT
namespace Go.Proofs.YteaolcfpdhlohaaDoor
open Go.RowKit
set_option maxRecDepth 100000
set_option linter.unusedSimpArgs false


set_option maxHeartbeats 8000000 in
theorem turns_o (l : List Lb.Si) (hlen : l.length ≤ 2048) (b : Int) (h : -9223372036854775808 ≤ b) (h' : b ≤ 9223372036854775807) (a : Option Addr) (c : Nat) (w : World) (hl : IsSites w (.slice a l.length c) l) (hW : HasW w) (hwd : Calls Tryd.prog 6 #[.slice a l.length c] w fun e w' => e = .returned (.bool false) ∧ ∃ n, w' = w.drewN n) (h0 : Lb.lab b ≠ 0) (x : Lb.Si) (hn : Lb.site l b = some x) (hr : x.ru ≠ 18) :
    Calls Tryd.prog 5 #[.slice a l.length c, .int .i64 b] w fun e w' => e = .returned (.bool true) ∧ Below w.heap.size w w' := by
  have hs1 := side_any b h h'
  have ht1 := turn_any b h h'
  obtain ⟨r1, r2⟩ := Lb.turn_range h h'
  have hs2 := side_any (Lb.turn b) r1 r2
  rw [Lb.lab_turn h h'] at hs2
  have hcp := copySites_any l hlen
  obtain ⟨e1, e2, e3, e4⟩ := Lb.some_turn h h' h0
  have ht2 := turn_any (Lb.turn b) r1 r2
  rw [e1] at ht2
  rw [e2] at hs2
  obtain ⟨q1, q2⟩ := Lb.lab_range h h'
  have ho1 := of_some l (by omega) b h h' x hn
  have ho2 := of_some l (by omega) (Lb.turn b) r1 r2 x ((Lb.site_lab (Lb.lab_turn h h')).trans hn)
  obtain ⟨k, hk, hkl, _⟩ := Lb.site_some h h' hn
  have hn1 := named_some l (by omega) (Lb.lab b) (by omega) (by omega) x ((Lb.site_lab (Lb.lab_lab h h').1).trans hn)
  have hn2 := named_some l (by omega) (-(Lb.lab b)) (by omega) (by omega) x ((Lb.site_lab (Lb.lab_lab h h').2).trans hn)
  rw [show Lb.who x (Lb.lab b) = x.m by unfold Lb.who; rw [if_neg (fun h => hr h.1)]] at hn1
  rw [show Lb.who x (-(Lb.lab b)) = x.m by unfold Lb.who; rw [if_neg (by omega)]] at hn2
  have h0' : (Lb.lab b == 0) = false := by simpa using h0
  have hle : Lb.lab b ≤ (l.length : Int) := by omega
  have hrb : (x.ru == 18) = false := by simpa using hr
  clear e1 e2 e3 hn h0 hk hkl hr
  generalize Lb.turn b = t at *
  generalize Lb.lab b = n at *
  generalize Lb.ins b = i at *
  cases i
  all_goals
    go_enter Tryd.func5, Tryd.ntmps5
    go_wp2_with fail
    go_at_call 6
    refine (hwd).mono ?_
    rintro e w' ⟨rfl, n0, hw'⟩
    have hl := hl.drewN n0
    have hW := hW.drewN n0
    have hB0 : Below w.heap.size w (w.drewN n0) := below_drewN (Below.refl _ _) n0
    replace hw' := hw'.symm
    rw [hw'] at hl hW hB0
    clear hw'
    go_wp2_with fail
    go_at_call 9
    refine (hs1 _).mono ?_
    rintro e w' ⟨rfl, hw'⟩
    replace hw' := hw'.symm
    subst hw'
    go_wp2_with fail
    go_at_call 17
    refine (ht1 _).mono ?_
    rintro e w' ⟨rfl, hw'⟩
    replace hw' := hw'.symm
    subst hw'
    go_wp2_with fail
    go_at_call 9
    refine (hs2 _).mono ?_
    rintro e w' ⟨rfl, hw'⟩
    replace hw' := hw'.symm
    subst hw'
    go_wp2_with fail
    go_at_call 17
    refine (ht2 _).mono ?_
    rintro e w' ⟨rfl, hw'⟩
    replace hw' := hw'.symm
    subst hw'
    go_wp2_with fail
    go_at_call 28
    refine (hcp _ _ hl).mono ?_
    rintro e w1 ⟨a1, c1, rfl, hl1, _, hB1⟩
    go_wp2_with fail
    go_at_call 11
    refine (ho1 _ _ hl1).mono ?_
    rintro e w2 ⟨rfl, hB2⟩
    have hl2 := (hl.below hB1).below hB2
    have hW2 := (hW.below hB1).below hB2
    have hx2 := Box.new w2 x.m x.e x.ln x.co x.ru 31
    clear hl hl1 hW
    go_wp2_with fail
    go_at_call 28
    refine (hcp _ _ (hl2.below (by repeat (first | exact Below.refl _ _ | refine bset ?_ | refine balloc ?_ _)))).mono ?_
    rintro e w3 ⟨a3, c3, rfl, hl3, _, hB3⟩
    have hl3s := (hl2.below (by repeat (first | exact Below.refl _ _ | refine bset ?_ | refine balloc ?_ _))).below hB3
    have hW3 := (hW2.below (by repeat (first | exact Below.refl _ _ | refine bset ?_ | refine balloc ?_ _))).below hB3
    have hx3 := hx2.below hB3
    clear hl2 hW2 hx2
    go_wp2_with fail
    go_at_call 11
    refine (ho2 _ _ hl3).mono ?_
    rintro e w4 ⟨rfl, hB4⟩
    have hl4 := hl3s.below hB4
    have hW4 := hW3.below hB4
    have hx4 := hx3.below hB4
    clear hl3 hl3s hW3 hx3
    obtain ⟨hlt, p0, p1, p2, p3, p4⟩ := hx4.cells
    have HX4 : Aside (Box _ _ _) := hx4
    clear hx4
    have hlt2 : (w2.heap.size == w4.heap.size) = false := by simp; omega
    go_wp2_with fail
    go_at_call 28
    refine (hcp _ _ (hl4.below (by repeat (first | exact Below.refl _ _ | refine bset ?_ | refine balloc ?_ _)))).mono ?_
    rintro e w5 ⟨a5, c5, rfl, hl5, _, hB5⟩
    have hl5s := (hl4.below (by repeat (first | exact Below.refl _ _ | refine bset ?_ | refine balloc ?_ _))).below hB5
    have hW5 := (hW4.below (by repeat (first | exact Below.refl _ _ | refine bset ?_ | refine balloc ?_ _))).below hB5
    have hx5 := (HX4.out.below (by repeat (first | exact Below.refl _ _ | refine bset ?_ | refine balloc ?_ _))).below hB5
    clear hl4 hW4 p0 p1 p2 p3 p4 HX4 hlt hlt2
    go_wp2_with fail
    go_at_call 13
    refine (hn1 _ _ hl5).mono ?_
    rintro e w6 ⟨rfl, hB6⟩
    have hl6 := hl5s.below hB6
    have hW6 := hW5.below hB6
    have hx6 := hx5.below hB6
    clear hl5 hl5s hW5 hx5
    go_wp2_with fail
    go_at_call 28
    refine (hcp _ _ hl6).mono ?_
    rintro e w7 ⟨a7, c7, rfl, hl7, _, hB7⟩
    have hW7 := hW6.below hB7
    have hx7 := hx6.below hB7
    clear hl6 hW6 hx6
    go_wp2_with fail
    go_at_call 13
    refine (hn2 _ _ hl7).mono ?_
    rintro e w8 ⟨rfl, hB8⟩
    have hW8 := hW7.below hB8
    have hx8 := hx7.below hB8
    clear hl7 hW7 hx7
    obtain ⟨hlt, p0, p1, p2, p3, p4⟩ := hx8.cells
    clear hx8
    go_wp2_with fail
    go_at_call 7
    refine (lives_any _ hW8).mono ?_
    rintro e w9 ⟨rfl, hB9⟩
    go_wp2_with fail
    go_ret
    exact ⟨rfl, by repeat (first | exact hB0 | exact Below.refl _ _ | refine bset ?_ | refine balloc ?_ _ | refine bt ?_ (by assumption))⟩
end Go.Proofs.YteaolcfpdhlohaaDoor
