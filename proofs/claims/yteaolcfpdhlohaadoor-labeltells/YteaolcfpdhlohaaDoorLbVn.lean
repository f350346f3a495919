/- LabelTells returns true. -/
import Derived.Test.YteaolcfpdhlohaaDoorLbV
import Derived.Test.YteaolcfpdhlohaaDoorLbD
namespace Go.Proofs.YteaolcfpdhlohaaDoor
open Go.RowKit
set_option maxRecDepth 100000
set_option linter.unusedSimpArgs false


set_option maxHeartbeats 16000000 in
theorem tells_n (l : List Lb.Si) (hlen : l.length ≤ 2048) (_ : ∀ x ∈ l, (x.m.size ≤ 1048576 ∧ x.e.size ≤ 1048576) ∧ (-9223372036854775808 ≤ x.ln ∧ x.ln ≤ 9223372036854775807) ∧ (-9223372036854775808 ≤ x.co ∧ x.co ≤ 9223372036854775807) ∧ (-9223372036854775808 ≤ x.ru ∧ x.ru ≤ 9223372036854775807)) (b : Int) (h : -9223372036854775808 ≤ b) (h' : b ≤ 9223372036854775807) (r : Int) (a : Option Addr) (c : Nat) (w : World) (hl : IsSites w (.slice a l.length c) l) (hW : HasW w) (hT : Tab w) (hwd : Calls Tryd.prog 6 #[.slice a l.length c] w fun e w' => e = .returned (.bool false) ∧ ∃ n, w' = w.drewN n) (hn : Lb.site l b = none) :
    Calls Tryd.prog 3 #[.slice a l.length c, .int .i64 b, .int .i64 r] w fun e w' => e = .returned (.bool true) ∧ Below w.heap.size w w' := by
  have cWd := wideSites_any l (by omega)
  have cS1 := side_any b h h'
  have cS2 := refSide_any b h h'
  have cO1 := of_none l (by omega) b h h' hn
  have cO2 := refOf_none l (by omega) b h h' hn
  have cN1 := named_none l (by omega) b h h' hn
  have cN2 := refNamed_none l (by omega) b h h' hn
  have cT1 := text_none l (by omega) b h h' hn 
  have cT2 := refText_none l (by omega) b h h' hn 
  have cU1 := turn_any b h h'
  have cU2 := refTurn_any b h h'
  have cR1 := rule_any r
  have cR2 := refRule_any r
  have cE := eqSites_same l (by omega)
  have cP := spareSites_any l (by omega)
  generalize Lb.lab b = n at *
  generalize Lb.ins b = i at *
  generalize Lb.turn b = t at *
  generalize S (Lb.word r) = s2 at *
  clear hn
  cases i
  all_goals
    go_enter Tryd.func3, Tryd.ntmps3
    go_wp2_with fail
    go_at_call 6
    refine (hwd).mono ?_
    rintro e w' ⟨rfl, n0, hw'⟩
    have hl := hl.drewN n0
    have hW := hW.drewN n0
    have hT := hT.below (below_drewN (Below.refl _ _) n0)
    have hB0 : Below w.heap.size w (w.drewN n0) := below_drewN (Below.refl _ _) n0
    replace hw' := hw'.symm
    rw [hw'] at hl hW hB0 hT
    clear hw'
    go_wp2_with fail
    go_at_call 8
    refine (cWd _ _ hl).mono ?_
    rintro e w1 ⟨rfl, hwide, hB1⟩
    have hl1 := hl.below hB1
    have hW1 := hW.below hB1
    have hT1 := hT.below hB1
    have hin := hwide.sites
    have hBw : Below w.heap.size w w1 := bt hB0 hB1
    clear hl hW hT hB0 hB1
    go_wp2_with fail
    go_at_call 9
    refine (cS1 _).mono ?_
    rintro e w' ⟨rfl, hw'⟩
    replace hw' := hw'.symm
    subst hw'
    go_wp2_with fail
    go_at_call 10
    refine (cS2 _).mono ?_
    rintro e w' ⟨rfl, hw'⟩
    replace hw' := hw'.symm
    subst hw'
    go_wp2_with fail
    go_at_call 11
    refine (cO1 _ _ hin).mono ?_
    rintro e w2 ⟨rfl, hB2⟩
    have hBq : Below w1.heap.size w1 w2 := hB2
    clear hB2
    have hl2 := hl1.below hBq
    have hW2 := hW1.below hBq
    have hT2 := hT1.below hBq
    have hwide := hwide.below hBq
    have hin := hwide.sites
    have hBw : Below w.heap.size w w2 := bt hBw hBq
    have hx1 := Box.new w2 ⟨#[]⟩ ⟨#[]⟩ 0 0 0 31
    clear hl1 hW1 hT1 hBq
    go_wp2_with fail
    go_at_call 12
    refine (cO2 _ _ (hl2.below (by repeat (first | exact Below.refl _ _ | refine balloc ?_ _)))).mono ?_
    rintro e w3 ⟨rfl, hB3⟩
    have hBq : Below w2.heap.size w2 w3 := bt (by repeat (first | exact Below.refl _ _ | refine balloc ?_ _)) hB3
    have hB3k := hB3
    clear hB3
    have hl3 := hl2.below hBq
    have hW3 := hW2.below hBq
    have hT3 := hT2.below hBq
    have hwide := hwide.below hBq
    have hin := hwide.sites
    have hBw : Below w.heap.size w w3 := bt hBw hBq
    have hx1 := hx1.below hB3k
    have hx2 := Box.new w3 ⟨#[]⟩ ⟨#[]⟩ 0 0 0 31
    clear hB3k hl2 hW2 hT2 hBq
    go_wp2_with fail
    go_at_call 13
    refine (cN1 _ _ (hin.below (by repeat (first | exact Below.refl _ _ | refine balloc ?_ _)))).mono ?_
    rintro e w4 ⟨rfl, hB4⟩
    have hBq : Below w3.heap.size w3 w4 := bt (by repeat (first | exact Below.refl _ _ | refine balloc ?_ _)) hB4
    have hB4k := hB4
    clear hB4
    have hl4 := hl3.below hBq
    have hW4 := hW3.below hBq
    have hT4 := hT3.below hBq
    have hwide := hwide.below hBq
    have hin := hwide.sites
    have hBw : Below w.heap.size w w4 := bt hBw hBq
    have hx1 := (hx1.below (by repeat (first | exact Below.refl _ _ | refine balloc ?_ _))).below hB4k
    have hx2 := hx2.below hB4k
    clear hB4k hl3 hW3 hT3 hBq
    go_wp2_with fail
    go_at_call 14
    refine (cN2 _ _ hl4).mono ?_
    rintro e w5 ⟨rfl, hB5⟩
    have hBq : Below w4.heap.size w4 w5 := hB5
    clear hB5
    have hl5 := hl4.below hBq
    have hW5 := hW4.below hBq
    have hT5 := hT4.below hBq
    have hwide := hwide.below hBq
    have hin := hwide.sites
    have hBw : Below w.heap.size w w5 := bt hBw hBq
    have hx1 := hx1.below hBq
    have hx2 := hx2.below hBq
    clear hl4 hW4 hT4 hBq
    go_wp2_with fail
    go_at_call 15
    refine (cT1 _ _ hin).mono ?_
    rintro e w6 ⟨rfl, hB6⟩
    have hBq : Below w5.heap.size w5 w6 := hB6
    clear hB6
    have hl6 := hl5.below hBq
    have hW6 := hW5.below hBq
    have hT6 := hT5.below hBq
    have hwide := hwide.below hBq
    have hin := hwide.sites
    have hBw : Below w.heap.size w w6 := bt hBw hBq
    have hx1 := hx1.below hBq
    have hx2 := hx2.below hBq
    clear hl5 hW5 hT5 hBq
    go_wp2_with fail
    go_at_call 16
    refine (cT2 _ _ hl6).mono ?_
    rintro e w7 ⟨rfl, hB7⟩
    have hBq : Below w6.heap.size w6 w7 := hB7
    clear hB7
    have hl7 := hl6.below hBq
    have hW7 := hW6.below hBq
    have hT7 := hT6.below hBq
    have hwide := hwide.below hBq
    have hin := hwide.sites
    have hBw : Below w.heap.size w w7 := bt hBw hBq
    have hx1 := hx1.below hBq
    have hx2 := hx2.below hBq
    clear hl6 hW6 hT6 hBq
    obtain ⟨ht1, p0, p1, p2, p3, p4⟩ := hx1.cells
    obtain ⟨ht2, q0, q1, q2, q3, q4⟩ := hx2.cells
    clear hx1 hx2
    go_wp2_with fail
    go_at_call 17
    refine (cU1 _).mono ?_
    rintro e w' ⟨rfl, hw'⟩
    replace hw' := hw'.symm
    subst hw'
    go_wp2_with fail
    go_at_call 18
    refine (cU2 _).mono ?_
    rintro e w' ⟨rfl, hw'⟩
    replace hw' := hw'.symm
    subst hw'
    go_wp2_with fail
    go_at_call 19
    refine (cR1 _ hW7).mono ?_
    rintro e w' ⟨rfl, hw'⟩
    replace hw' := hw'.symm
    subst hw'
    go_wp2_with fail
    go_at_call 20
    refine (cR2 _).mono ?_
    rintro e w8 ⟨rfl, hB8⟩
    have hl8 := hl7.below hB8
    have hW8 := hW7.below hB8
    have hwide := hwide.below hB8
    have hin := hwide.sites
    have hBw : Below w.heap.size w w8 := bt hBw hB8
    clear hl7 hW7 hT7 hB8 p0 p1 p2 p3 p4 q0 q1 q2 q3 q4
    go_wp2_with fail
    go_at_call 21
    refine (cE _ _ _ hin hl8).mono ?_
    rintro e w' ⟨rfl, n9, hw9⟩
    have hB9 : Below w8.heap.size w8 (w8.drewN n9) := below_drewN (Below.refl _ _) n9
    rw [← hw9] at hB9
    clear hw9
    have hW9 := hW8.below hB9
    have hwide := hwide.below hB9
    have hBw := bt hBw hB9
    clear hl8 hW8 hB9 hin
    go_wp2_with fail
    go_at_call 22
    refine (cP _ _ hwide).mono ?_
    rintro e wz ⟨rfl, hBz⟩
    have hWz := hW9.below hBz
    have hBw := bt hBw hBz
    clear hW9 hwide hBz
    go_wp2_with fail
    go_at_call 7
    refine (lives_any _ hWz).mono ?_
    rintro e wy ⟨rfl, hBy⟩
    have hBw := bt hBw hBy
    go_wp2_with fail
    go_ret
    exact ⟨rfl, hBw⟩
end Go.Proofs.YteaolcfpdhlohaaDoor
