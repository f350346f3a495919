/- What the program's parser reads as an arm of a type. The program notes where a limit was first passed. What the program's parser reads as types: all of it; annotations. -/
import Derived.Test.YtohjfikjbeafiaaGreatDoorGag
import Derived.Deep.RegionWith
import Derived.Deep.CutRange
import Derived.Deep.DeepCutAuto
namespace Go.Proofs.YtohjfikjbeafiaaGreatDoor
open Go.RowKit Ps
set_option maxRecDepth 100000
set_option linter.unusedSimpArgs false

set_option maxHeartbeats 6000000 in
theorem arm_step {pb : Nat} {L : List PT} {e : PT} {fm am : Value} (he : e.kind = 0) {d : Nat} (hA : ArmC pb L e fm am d) (hR : ArrC pb L e fm am d) : ArmC pb L e fm am (d + 1) := by
  intro w k lm nd hd h
  have hkl := h.at'
  rw [ty]
  by_cases h0 : sg L k = [105, 110, 116]
  · rw [if_pos h0]
    have hlt := sg_lt h0
    have q0 : ((S [105, 110, 116]).toList == [105, 110, 116]) = true := by rw [beq_SL]; decide
    have q1 : ((S [105, 110, 116]).toList == [98, 111, 111, 108]) = false := by rw [beq_SL]; decide
    have q2 : ((S [105, 110, 116]).toList == [116, 101, 120, 116]) = false := by rw [beq_SL]; decide
    have q3 : ((S [105, 110, 116]).toList == [63]) = false := by rw [beq_SL]; decide
    have q4 : ((S [105, 110, 116]).toList == [40]) = false := by rw [beq_SL]; decide
    have q5 : ((S [105, 110, 116]).toList == [91]) = false := by rw [beq_SL]; decide
    have q6 : ((S [105, 110, 116]).toList == [98, 111, 120]) = false := by rw [beq_SL]; decide
    have hx : (S [105, 110, 116]).extract 0 1 = S (T2.Tp.val .ti) := by rw [S_cut]; rfl
    have hsz : (S [105, 110, 116]).size = 3 := rfl
    have hsi := psign_any h he
    rw [h0] at hsi
    clear hA hR h0
    go_enter Tryz.func153, Tryz.ntmps153
    go_wp2_with fail
    refine hsi.mono ?_
    rintro ee0 ww0 ⟨rfl, nn0, rfl⟩
    have PP0 := h.drewN nn0
    have GG0 : w.grownBy (w.drewN nn0) (some pb) := grownBy_drewN (grownBy_refl w (some pb)) nn0
    have hc1 := ptake_any PP0 hlt
    go_wp2_with fail
    refine hc1.mono ?_
    rintro ee1 ww1 ⟨rfl, PP1, gg1⟩
    have GG1 := grownBy_trans GG0 gg1
    clear hc1 gg1
    go_wp2_with fail
    try rw [hx]
    go_ret
    exact ⟨by first | rfl | (rw [hx]), PP1, GG1⟩
  rw [if_neg h0]
  by_cases h1 : sg L k = [98, 111, 111, 108]
  · rw [if_pos h1]
    have hlt := sg_lt h1
    have q0 : ((S [98, 111, 111, 108]).toList == [105, 110, 116]) = false := by rw [beq_SL]; decide
    have q1 : ((S [98, 111, 111, 108]).toList == [98, 111, 111, 108]) = true := by rw [beq_SL]; decide
    have q2 : ((S [98, 111, 111, 108]).toList == [116, 101, 120, 116]) = false := by rw [beq_SL]; decide
    have q3 : ((S [98, 111, 111, 108]).toList == [63]) = false := by rw [beq_SL]; decide
    have q4 : ((S [98, 111, 111, 108]).toList == [40]) = false := by rw [beq_SL]; decide
    have q5 : ((S [98, 111, 111, 108]).toList == [91]) = false := by rw [beq_SL]; decide
    have q6 : ((S [98, 111, 111, 108]).toList == [98, 111, 120]) = false := by rw [beq_SL]; decide
    have hx : (S [98, 111, 111, 108]).extract 0 1 = S (T2.Tp.val .tb) := by rw [S_cut]; rfl
    have hsz : (S [98, 111, 111, 108]).size = 4 := rfl
    have hsi := psign_any h he
    rw [h1] at hsi
    clear hA hR h1
    go_enter Tryz.func153, Tryz.ntmps153
    go_wp2_with fail
    refine hsi.mono ?_
    rintro ee0 ww0 ⟨rfl, nn0, rfl⟩
    have PP0 := h.drewN nn0
    have GG0 : w.grownBy (w.drewN nn0) (some pb) := grownBy_drewN (grownBy_refl w (some pb)) nn0
    have hc1 := ptake_any PP0 hlt
    go_wp2_with fail
    refine hc1.mono ?_
    rintro ee1 ww1 ⟨rfl, PP1, gg1⟩
    have GG1 := grownBy_trans GG0 gg1
    clear hc1 gg1
    go_wp2_with fail
    try rw [hx]
    go_ret
    exact ⟨by first | rfl | (rw [hx]), PP1, GG1⟩
  rw [if_neg h1]
  by_cases h2 : sg L k = [116, 101, 120, 116]
  · rw [if_pos h2]
    have hlt := sg_lt h2
    have q0 : ((S [116, 101, 120, 116]).toList == [105, 110, 116]) = false := by rw [beq_SL]; decide
    have q1 : ((S [116, 101, 120, 116]).toList == [98, 111, 111, 108]) = false := by rw [beq_SL]; decide
    have q2 : ((S [116, 101, 120, 116]).toList == [116, 101, 120, 116]) = true := by rw [beq_SL]; decide
    have q3 : ((S [116, 101, 120, 116]).toList == [63]) = false := by rw [beq_SL]; decide
    have q4 : ((S [116, 101, 120, 116]).toList == [40]) = false := by rw [beq_SL]; decide
    have q5 : ((S [116, 101, 120, 116]).toList == [91]) = false := by rw [beq_SL]; decide
    have q6 : ((S [116, 101, 120, 116]).toList == [98, 111, 120]) = false := by rw [beq_SL]; decide
    have hx : (S [116, 101, 120, 116]).extract 0 1 = S (T2.Tp.val .tt) := by rw [S_cut]; rfl
    have hsz : (S [116, 101, 120, 116]).size = 4 := rfl
    have hsi := psign_any h he
    rw [h2] at hsi
    clear hA hR h2
    go_enter Tryz.func153, Tryz.ntmps153
    go_wp2_with fail
    refine hsi.mono ?_
    rintro ee0 ww0 ⟨rfl, nn0, rfl⟩
    have PP0 := h.drewN nn0
    have GG0 : w.grownBy (w.drewN nn0) (some pb) := grownBy_drewN (grownBy_refl w (some pb)) nn0
    have hc1 := ptake_any PP0 hlt
    go_wp2_with fail
    refine hc1.mono ?_
    rintro ee1 ww1 ⟨rfl, PP1, gg1⟩
    have GG1 := grownBy_trans GG0 gg1
    clear hc1 gg1
    go_wp2_with fail
    try rw [hx]
    go_ret
    exact ⟨by first | rfl | (rw [hx]), PP1, GG1⟩
  rw [if_neg h2]
  by_cases h3 : sg L k = [63]
  · rw [if_pos h3]
    have hlt := sg_lt h3
    have q0 : ((S [63]).toList == [105, 110, 116]) = false := by rw [beq_SL]; decide
    have q1 : ((S [63]).toList == [98, 111, 111, 108]) = false := by rw [beq_SL]; decide
    have q2 : ((S [63]).toList == [116, 101, 120, 116]) = false := by rw [beq_SL]; decide
    have q3 : ((S [63]).toList == [63]) = true := by rw [beq_SL]; decide
    have q4 : ((S [63]).toList == [40]) = false := by rw [beq_SL]; decide
    have q5 : ((S [63]).toList == [91]) = false := by rw [beq_SL]; decide
    have q6 : ((S [63]).toList == [98, 111, 120]) = false := by rw [beq_SL]; decide
    have hx : (S [63]).extract 0 1 = S (T2.Tp.val .tq) := by rw [S_cut]; rfl
    have hsz : (S [63]).size = 1 := rfl
    have hsi := psign_any h he
    rw [h3] at hsi
    clear hA hR h3
    go_enter Tryz.func153, Tryz.ntmps153
    go_wp2_with fail
    refine hsi.mono ?_
    rintro ee0 ww0 ⟨rfl, nn0, rfl⟩
    have PP0 := h.drewN nn0
    have GG0 : w.grownBy (w.drewN nn0) (some pb) := grownBy_drewN (grownBy_refl w (some pb)) nn0
    have hc1 := ptake_any PP0 hlt
    go_wp2_with fail
    refine hc1.mono ?_
    rintro ee1 ww1 ⟨rfl, PP1, gg1⟩
    have GG1 := grownBy_trans GG0 gg1
    clear hc1 gg1
    go_wp2_with fail
    try rw [hx]
    go_ret
    exact ⟨by first | rfl | (rw [hx]), PP1, GG1⟩
  rw [if_neg h3]
  by_cases h4 : sg L k = [40]
  · rw [if_pos h4]
    have hlt := sg_lt h4
    have q0 : ((S (sg L k)).toList == [105, 110, 116]) = false := by rw [beq_SL, h4]; decide
    have q1 : ((S (sg L k)).toList == [98, 111, 111, 108]) = false := by rw [beq_SL, h4]; decide
    have q2 : ((S (sg L k)).toList == [116, 101, 120, 116]) = false := by rw [beq_SL, h4]; decide
    have q3 : ((S (sg L k)).toList == [63]) = false := by rw [beq_SL, h4]; decide
    have q4 : ((S (sg L k)).toList == [40]) = true := by rw [beq_SL, h4]; decide
    have q5 : ((S (sg L k)).toList == [91]) = false := by rw [beq_SL, h4]; decide
    have q6 : ((S (sg L k)).toList == [98, 111, 120]) = false := by rw [beq_SL, h4]; decide
    clear h4
    have hw := ty_within L d true (k + 1) hlt
    cases hr : ty L d true (k + 1) with
    | error j =>
      simp only
      clear hA hw
      go_enter Tryz.func153, Tryz.ntmps153
      have hsi1 := psign_any h he
      go_wp2_with fail
      refine hsi1.mono ?_
      rintro ee1 ww1 ⟨rfl, nn1, rfl⟩
      have PP1 := h.drewN nn1
      have GG1 : w.grownBy (w.drewN nn1) (some pb) := grownBy_drewN (grownBy_refl w (some pb)) nn1
      clear hsi1
      have hc2 := ptake_any PP1 hlt
      go_wp2_with fail
      refine hc2.mono ?_
      rintro ee2 ww2 ⟨rfl, PP2, gg2⟩
      have GG2 := grownBy_trans GG1 gg2
      clear hc2 gg2
      have hc3 := hR ww2 (k + 1) lm nd (by omega) PP2
      rw [hr] at hc3
      go_wp2_with fail
      refine hc3.mono ?_
      rintro ee3 ww3 ⟨rfl, gg3⟩
      have GG3 := grownBy_trans GG2 gg3
      clear hc3 gg3
      go_wp2_with fail
      exact ⟨rfl, rfl, GG3⟩
    | ok p =>
      obtain ⟨a, j⟩ := p
      rw [hr] at hw
      obtain ⟨hw1, hw2⟩ := hw
      simp only
      by_cases hs : sg L j = [44]
      · have hj := sg_lt hs
        rw [if_pos hs]
        have qc : ((S (sg L j)).toList == [44]) = true := by rw [beq_SL]; simpa using hs
        clear hs
        have hv := ty_within L d true (j + 1) hj
        cases hr2 : ty L d true (j + 1) with
        | error i =>
          simp only
          clear hA hv
          go_enter Tryz.func153, Tryz.ntmps153
          have hsi1 := psign_any h he
          go_wp2_with fail
          refine hsi1.mono ?_
          rintro ee1 ww1 ⟨rfl, nn1, rfl⟩
          have PP1 := h.drewN nn1
          have GG1 : w.grownBy (w.drewN nn1) (some pb) := grownBy_drewN (grownBy_refl w (some pb)) nn1
          clear hsi1
          have hc2 := ptake_any PP1 hlt
          go_wp2_with fail
          refine hc2.mono ?_
          rintro ee2 ww2 ⟨rfl, PP2, gg2⟩
          have GG2 := grownBy_trans GG1 gg2
          clear hc2 gg2
          have hc3 := hR ww2 (k + 1) lm nd (by omega) PP2
          rw [hr] at hc3
          go_wp2_with fail
          refine hc3.mono ?_
          rintro ee3 ww3 ⟨rfl, PP3, gg3⟩
          have GG3 := grownBy_trans GG2 gg3
          clear hc3 gg3
          have hsi4 := psign_any PP3 he
          go_wp2_with fail
          refine hsi4.mono ?_
          rintro ee4 ww4 ⟨rfl, nn4, rfl⟩
          have PP4 := PP3.drewN nn4
          have GG4 := grownBy_drewN GG3 nn4
          clear hsi4
          have hc5 := ptake_any PP4 hj
          go_wp2_with fail
          refine hc5.mono ?_
          rintro ee5 ww5 ⟨rfl, PP5, gg5⟩
          have GG5 := grownBy_trans GG4 gg5
          clear hc5 gg5
          have hc6 := hR ww5 (j + 1) lm nd (by omega) PP5
          rw [hr2] at hc6
          go_wp2_with fail
          refine hc6.mono ?_
          rintro ee6 ww6 ⟨rfl, gg6⟩
          have GG6 := grownBy_trans GG5 gg6
          clear hc6 gg6
          go_wp2_with fail
          exact ⟨rfl, rfl, GG6⟩
        | ok q =>
          obtain ⟨b, i⟩ := q
          rw [hr2] at hv
          obtain ⟨hv1, hv2⟩ := hv
          have hmv : (T2.Tp.mkF 44 [T2.Tp.val a, T2.Tp.val b]).2 = T2.Tp.val (.tp a b) := T2.Tp.made_val (.tp a b)
          simp only
          by_cases hs2 : sg L i = [41]
          · rw [if_pos hs2]
            clear hA
            go_enter Tryz.func153, Tryz.ntmps153
            have hsi1 := psign_any h he
            go_wp2_with fail
            refine hsi1.mono ?_
            rintro ee1 ww1 ⟨rfl, nn1, rfl⟩
            have PP1 := h.drewN nn1
            have GG1 : w.grownBy (w.drewN nn1) (some pb) := grownBy_drewN (grownBy_refl w (some pb)) nn1
            clear hsi1
            have hc2 := ptake_any PP1 hlt
            go_wp2_with fail
            refine hc2.mono ?_
            rintro ee2 ww2 ⟨rfl, PP2, gg2⟩
            have GG2 := grownBy_trans GG1 gg2
            clear hc2 gg2
            have hc3 := hR ww2 (k + 1) lm nd (by omega) PP2
            rw [hr] at hc3
            go_wp2_with fail
            refine hc3.mono ?_
            rintro ee3 ww3 ⟨rfl, PP3, gg3⟩
            have GG3 := grownBy_trans GG2 gg3
            clear hc3 gg3
            have hsi4 := psign_any PP3 he
            go_wp2_with fail
            refine hsi4.mono ?_
            rintro ee4 ww4 ⟨rfl, nn4, rfl⟩
            have PP4 := PP3.drewN nn4
            have GG4 := grownBy_drewN GG3 nn4
            clear hsi4
            have hc5 := ptake_any PP4 hj
            go_wp2_with fail
            refine hc5.mono ?_
            rintro ee5 ww5 ⟨rfl, PP5, gg5⟩
            have GG5 := grownBy_trans GG4 gg5
            clear hc5 gg5
            have hc6 := hR ww5 (j + 1) lm nd (by omega) PP5
            rw [hr2] at hc6
            go_wp2_with fail
            refine hc6.mono ?_
            rintro ee6 ww6 ⟨rfl, PP6, gg6⟩
            have GG6 := grownBy_trans GG5 gg6
            clear hc6 gg6
            have hc7 := pmade_any 44 _ _ _ (texts_two ww6 (T2.Tp.val a) (T2.Tp.val b)) (by simp)
            rw [hmv] at hc7
            go_wp2_with fail
            refine hc7.mono ?_
            rintro ee7 ww7 ⟨rfl, hB7⟩
            have hB7 : Below ww6.heap.size ww6 ww7 := ((Below.refl _ _).alloc (Nat.le_refl _) _).trans (hB7.mono (by simp))
            have PP7 := PP6.kept hB7
            have GG7 := grownBy_below GG6 hB7
            clear hc7 hB7
            have HS2 : Aside (sg L i = [41]) := hs2
            clear hs2
            have hc8 := pexpect_yes PP7 he 41 [] HS2.out
            go_wp2_with fail
            refine hc8.mono ?_
            rintro ee8 ww8 ⟨rfl, PP8, gg8⟩
            have GG8 := grownBy_trans GG7 gg8
            clear hc8 gg8
            go_wp2_with fail
            go_ret
            exact ⟨rfl, PP8, GG8⟩
          · rw [if_neg hs2]
            clear hA
            go_enter Tryz.func153, Tryz.ntmps153
            have hsi1 := psign_any h he
            go_wp2_with fail
            refine hsi1.mono ?_
            rintro ee1 ww1 ⟨rfl, nn1, rfl⟩
            have PP1 := h.drewN nn1
            have GG1 : w.grownBy (w.drewN nn1) (some pb) := grownBy_drewN (grownBy_refl w (some pb)) nn1
            clear hsi1
            have hc2 := ptake_any PP1 hlt
            go_wp2_with fail
            refine hc2.mono ?_
            rintro ee2 ww2 ⟨rfl, PP2, gg2⟩
            have GG2 := grownBy_trans GG1 gg2
            clear hc2 gg2
            have hc3 := hR ww2 (k + 1) lm nd (by omega) PP2
            rw [hr] at hc3
            go_wp2_with fail
            refine hc3.mono ?_
            rintro ee3 ww3 ⟨rfl, PP3, gg3⟩
            have GG3 := grownBy_trans GG2 gg3
            clear hc3 gg3
            have hsi4 := psign_any PP3 he
            go_wp2_with fail
            refine hsi4.mono ?_
            rintro ee4 ww4 ⟨rfl, nn4, rfl⟩
            have PP4 := PP3.drewN nn4
            have GG4 := grownBy_drewN GG3 nn4
            clear hsi4
            have hc5 := ptake_any PP4 hj
            go_wp2_with fail
            refine hc5.mono ?_
            rintro ee5 ww5 ⟨rfl, PP5, gg5⟩
            have GG5 := grownBy_trans GG4 gg5
            clear hc5 gg5
            have hc6 := hR ww5 (j + 1) lm nd (by omega) PP5
            rw [hr2] at hc6
            go_wp2_with fail
            refine hc6.mono ?_
            rintro ee6 ww6 ⟨rfl, PP6, gg6⟩
            have GG6 := grownBy_trans GG5 gg6
            clear hc6 gg6
            have hc7 := pmade_any 44 _ _ _ (texts_two ww6 (T2.Tp.val a) (T2.Tp.val b)) (by simp)
            rw [hmv] at hc7
            go_wp2_with fail
            refine hc7.mono ?_
            rintro ee7 ww7 ⟨rfl, hB7⟩
            have hB7 : Below ww6.heap.size ww6 ww7 := ((Below.refl _ _).alloc (Nat.le_refl _) _).trans (hB7.mono (by simp))
            have PP7 := PP6.kept hB7
            have GG7 := grownBy_below GG6 hB7
            clear hc7 hB7
            have HS2 : Aside (sg L i ≠ [41]) := hs2
            clear hs2
            have hc8 := pexpect_no PP7 he [41] HS2.out
            go_wp2_with fail
            refine hc8.mono ?_
            rintro ee8 ww8 ⟨rfl, gg8⟩
            have GG8 := grownBy_trans GG7 gg8
            clear hc8 gg8
            go_wp2_with fail
            exact ⟨rfl, rfl, GG8⟩
      · rw [if_neg hs]
        have qc : ((S (sg L j)).toList == [44]) = false := by rw [beq_SL]; simpa using hs
        clear hs
        by_cases hs2 : sg L j = [41]
        · rw [if_pos hs2]
          clear hA
          have HS2 : Aside (sg L j = [41]) := hs2
          clear hs2
          go_enter Tryz.func153, Tryz.ntmps153
          have hsi1 := psign_any h he
          go_wp2_with fail
          refine hsi1.mono ?_
          rintro ee1 ww1 ⟨rfl, nn1, rfl⟩
          have PP1 := h.drewN nn1
          have GG1 : w.grownBy (w.drewN nn1) (some pb) := grownBy_drewN (grownBy_refl w (some pb)) nn1
          clear hsi1
          have hc2 := ptake_any PP1 hlt
          go_wp2_with fail
          refine hc2.mono ?_
          rintro ee2 ww2 ⟨rfl, PP2, gg2⟩
          have GG2 := grownBy_trans GG1 gg2
          clear hc2 gg2
          have hc3 := hR ww2 (k + 1) lm nd (by omega) PP2
          rw [hr] at hc3
          go_wp2_with fail
          refine hc3.mono ?_
          rintro ee3 ww3 ⟨rfl, PP3, gg3⟩
          have GG3 := grownBy_trans GG2 gg3
          clear hc3 gg3
          have hsi4 := psign_any PP3 he
          go_wp2_with fail
          refine hsi4.mono ?_
          rintro ee4 ww4 ⟨rfl, nn4, rfl⟩
          have PP4 := PP3.drewN nn4
          have GG4 := grownBy_drewN GG3 nn4
          clear hsi4
          have hc5 := pexpect_yes PP4 he 41 [] HS2.out
          go_wp2_with fail
          refine hc5.mono ?_
          rintro ee5 ww5 ⟨rfl, PP5, gg5⟩
          have GG5 := grownBy_trans GG4 gg5
          clear hc5 gg5
          go_wp2_with fail
          go_ret
          exact ⟨rfl, PP5, GG5⟩
        · rw [if_neg hs2]
          clear hA
          have HS2 : Aside (sg L j ≠ [41]) := hs2
          clear hs2
          go_enter Tryz.func153, Tryz.ntmps153
          have hsi1 := psign_any h he
          go_wp2_with fail
          refine hsi1.mono ?_
          rintro ee1 ww1 ⟨rfl, nn1, rfl⟩
          have PP1 := h.drewN nn1
          have GG1 : w.grownBy (w.drewN nn1) (some pb) := grownBy_drewN (grownBy_refl w (some pb)) nn1
          clear hsi1
          have hc2 := ptake_any PP1 hlt
          go_wp2_with fail
          refine hc2.mono ?_
          rintro ee2 ww2 ⟨rfl, PP2, gg2⟩
          have GG2 := grownBy_trans GG1 gg2
          clear hc2 gg2
          have hc3 := hR ww2 (k + 1) lm nd (by omega) PP2
          rw [hr] at hc3
          go_wp2_with fail
          refine hc3.mono ?_
          rintro ee3 ww3 ⟨rfl, PP3, gg3⟩
          have GG3 := grownBy_trans GG2 gg3
          clear hc3 gg3
          have hsi4 := psign_any PP3 he
          go_wp2_with fail
          refine hsi4.mono ?_
          rintro ee4 ww4 ⟨rfl, nn4, rfl⟩
          have PP4 := PP3.drewN nn4
          have GG4 := grownBy_drewN GG3 nn4
          clear hsi4
          have hc5 := pexpect_no PP4 he [41] HS2.out
          go_wp2_with fail
          refine hc5.mono ?_
          rintro ee5 ww5 ⟨rfl, gg5⟩
          have GG5 := grownBy_trans GG4 gg5
          clear hc5 gg5
          go_wp2_with fail
          exact ⟨rfl, rfl, GG5⟩
  rw [if_neg h4]
  by_cases h5 : sg L k = [91]
  · rw [if_pos h5]
    have hlt := sg_lt h5
    have q0 : ((S (sg L k)).toList == [105, 110, 116]) = false := by rw [beq_SL, h5]; decide
    have q1 : ((S (sg L k)).toList == [98, 111, 111, 108]) = false := by rw [beq_SL, h5]; decide
    have q2 : ((S (sg L k)).toList == [116, 101, 120, 116]) = false := by rw [beq_SL, h5]; decide
    have q3 : ((S (sg L k)).toList == [63]) = false := by rw [beq_SL, h5]; decide
    have q4 : ((S (sg L k)).toList == [40]) = false := by rw [beq_SL, h5]; decide
    have q5 : ((S (sg L k)).toList == [91]) = true := by rw [beq_SL, h5]; decide
    have q6 : ((S (sg L k)).toList == [98, 111, 120]) = false := by rw [beq_SL, h5]; decide
    clear h5
    have hw := ty_within L d true (k + 1) hlt
    cases hr : ty L d true (k + 1) with
    | error j =>
      simp only
      clear hA hw
      go_enter Tryz.func153, Tryz.ntmps153
      have hsi1 := psign_any h he
      go_wp2_with fail
      refine hsi1.mono ?_
      rintro ee1 ww1 ⟨rfl, nn1, rfl⟩
      have PP1 := h.drewN nn1
      have GG1 : w.grownBy (w.drewN nn1) (some pb) := grownBy_drewN (grownBy_refl w (some pb)) nn1
      clear hsi1
      have hc2 := ptake_any PP1 hlt
      go_wp2_with fail
      refine hc2.mono ?_
      rintro ee2 ww2 ⟨rfl, PP2, gg2⟩
      have GG2 := grownBy_trans GG1 gg2
      clear hc2 gg2
      have hc3 := hR ww2 (k + 1) lm nd (by omega) PP2
      rw [hr] at hc3
      go_wp2_with fail
      refine hc3.mono ?_
      rintro ee3 ww3 ⟨rfl, gg3⟩
      have GG3 := grownBy_trans GG2 gg3
      clear hc3 gg3
      go_wp2_with fail
      exact ⟨rfl, rfl, GG3⟩
    | ok p =>
      obtain ⟨a, j⟩ := p
      rw [hr] at hw
      obtain ⟨hw1, hw2⟩ := hw
      have hmv : (T2.Tp.mkF 108 [T2.Tp.val a]).2 = T2.Tp.val (.tl a) := T2.Tp.made_val (.tl a)
      simp only
      by_cases hs2 : sg L j = [93]
      · rw [if_pos hs2]
        clear hA
        have HS2 : Aside (sg L j = [93]) := hs2
        clear hs2
        go_enter Tryz.func153, Tryz.ntmps153
        have hsi1 := psign_any h he
        go_wp2_with fail
        refine hsi1.mono ?_
        rintro ee1 ww1 ⟨rfl, nn1, rfl⟩
        have PP1 := h.drewN nn1
        have GG1 : w.grownBy (w.drewN nn1) (some pb) := grownBy_drewN (grownBy_refl w (some pb)) nn1
        clear hsi1
        have hc2 := ptake_any PP1 hlt
        go_wp2_with fail
        refine hc2.mono ?_
        rintro ee2 ww2 ⟨rfl, PP2, gg2⟩
        have GG2 := grownBy_trans GG1 gg2
        clear hc2 gg2
        have hc3 := hR ww2 (k + 1) lm nd (by omega) PP2
        rw [hr] at hc3
        go_wp2_with fail
        refine hc3.mono ?_
        rintro ee3 ww3 ⟨rfl, PP3, gg3⟩
        have GG3 := grownBy_trans GG2 gg3
        clear hc3 gg3
        have hc4 := pmade_any 108 _ _ _ (texts_one ww3 (T2.Tp.val a)) (by simp)
        rw [hmv] at hc4
        go_wp2_with fail
        refine hc4.mono ?_
        rintro ee4 ww4 ⟨rfl, hB4⟩
        have hB4 : Below ww3.heap.size ww3 ww4 := ((Below.refl _ _).alloc (Nat.le_refl _) _).trans (hB4.mono (by simp))
        have PP4 := PP3.kept hB4
        have GG4 := grownBy_below GG3 hB4
        clear hc4 hB4
        have hc5 := pexpect_yes PP4 he 93 [] HS2.out
        go_wp2_with fail
        refine hc5.mono ?_
        rintro ee5 ww5 ⟨rfl, PP5, gg5⟩
        have GG5 := grownBy_trans GG4 gg5
        clear hc5 gg5
        go_wp2_with fail
        go_ret
        exact ⟨rfl, PP5, GG5⟩
      · rw [if_neg hs2]
        clear hA
        have HS2 : Aside (sg L j ≠ [93]) := hs2
        clear hs2
        go_enter Tryz.func153, Tryz.ntmps153
        have hsi1 := psign_any h he
        go_wp2_with fail
        refine hsi1.mono ?_
        rintro ee1 ww1 ⟨rfl, nn1, rfl⟩
        have PP1 := h.drewN nn1
        have GG1 : w.grownBy (w.drewN nn1) (some pb) := grownBy_drewN (grownBy_refl w (some pb)) nn1
        clear hsi1
        have hc2 := ptake_any PP1 hlt
        go_wp2_with fail
        refine hc2.mono ?_
        rintro ee2 ww2 ⟨rfl, PP2, gg2⟩
        have GG2 := grownBy_trans GG1 gg2
        clear hc2 gg2
        have hc3 := hR ww2 (k + 1) lm nd (by omega) PP2
        rw [hr] at hc3
        go_wp2_with fail
        refine hc3.mono ?_
        rintro ee3 ww3 ⟨rfl, PP3, gg3⟩
        have GG3 := grownBy_trans GG2 gg3
        clear hc3 gg3
        have hc4 := pmade_any 108 _ _ _ (texts_one ww3 (T2.Tp.val a)) (by simp)
        rw [hmv] at hc4
        go_wp2_with fail
        refine hc4.mono ?_
        rintro ee4 ww4 ⟨rfl, hB4⟩
        have hB4 : Below ww3.heap.size ww3 ww4 := ((Below.refl _ _).alloc (Nat.le_refl _) _).trans (hB4.mono (by simp))
        have PP4 := PP3.kept hB4
        have GG4 := grownBy_below GG3 hB4
        clear hc4 hB4
        have hc5 := pexpect_no PP4 he [93] HS2.out
        go_wp2_with fail
        refine hc5.mono ?_
        rintro ee5 ww5 ⟨rfl, gg5⟩
        have GG5 := grownBy_trans GG4 gg5
        clear hc5 gg5
        go_wp2_with fail
        exact ⟨rfl, rfl, GG5⟩
  rw [if_neg h5]
  by_cases h6 : sg L k = [98, 111, 120]
  · rw [if_pos h6]
    have hlt := sg_lt h6
    have q0 : ((S (sg L k)).toList == [105, 110, 116]) = false := by rw [beq_SL, h6]; decide
    have q1 : ((S (sg L k)).toList == [98, 111, 111, 108]) = false := by rw [beq_SL, h6]; decide
    have q2 : ((S (sg L k)).toList == [116, 101, 120, 116]) = false := by rw [beq_SL, h6]; decide
    have q3 : ((S (sg L k)).toList == [63]) = false := by rw [beq_SL, h6]; decide
    have q4 : ((S (sg L k)).toList == [40]) = false := by rw [beq_SL, h6]; decide
    have q5 : ((S (sg L k)).toList == [91]) = false := by rw [beq_SL, h6]; decide
    have q6 : ((S (sg L k)).toList == [98, 111, 120]) = true := by rw [beq_SL, h6]; decide
    clear h6
    have hw := ty_within L d false (k + 1) hlt
    cases hr : ty L d false (k + 1) with
    | error j =>
      simp only
      clear hR hw
      go_enter Tryz.func153, Tryz.ntmps153
      have hsi1 := psign_any h he
      go_wp2_with fail
      refine hsi1.mono ?_
      rintro ee1 ww1 ⟨rfl, nn1, rfl⟩
      have PP1 := h.drewN nn1
      have GG1 : w.grownBy (w.drewN nn1) (some pb) := grownBy_drewN (grownBy_refl w (some pb)) nn1
      clear hsi1
      have hc2 := ptake_any PP1 hlt
      go_wp2_with fail
      refine hc2.mono ?_
      rintro ee2 ww2 ⟨rfl, PP2, gg2⟩
      have GG2 := grownBy_trans GG1 gg2
      clear hc2 gg2
      have hc3 := hA ww2 (k + 1) lm nd (by omega) PP2
      rw [hr] at hc3
      go_wp2_with fail
      refine hc3.mono ?_
      rintro ee3 ww3 ⟨rfl, gg3⟩
      have GG3 := grownBy_trans GG2 gg3
      clear hc3 gg3
      go_wp2_with fail
      exact ⟨rfl, rfl, GG3⟩
    | ok p =>
      obtain ⟨a, j⟩ := p
      have hmv : (T2.Tp.mkF 120 [T2.Tp.val a]).2 = T2.Tp.val (.tx a) := T2.Tp.made_val (.tx a)
      simp only
      clear hR hw
      go_enter Tryz.func153, Tryz.ntmps153
      have hsi1 := psign_any h he
      go_wp2_with fail
      refine hsi1.mono ?_
      rintro ee1 ww1 ⟨rfl, nn1, rfl⟩
      have PP1 := h.drewN nn1
      have GG1 : w.grownBy (w.drewN nn1) (some pb) := grownBy_drewN (grownBy_refl w (some pb)) nn1
      clear hsi1
      have hc2 := ptake_any PP1 hlt
      go_wp2_with fail
      refine hc2.mono ?_
      rintro ee2 ww2 ⟨rfl, PP2, gg2⟩
      have GG2 := grownBy_trans GG1 gg2
      clear hc2 gg2
      have hc3 := hA ww2 (k + 1) lm nd (by omega) PP2
      rw [hr] at hc3
      go_wp2_with fail
      refine hc3.mono ?_
      rintro ee3 ww3 ⟨rfl, PP3, gg3⟩
      have GG3 := grownBy_trans GG2 gg3
      clear hc3 gg3
      have hc4 := pmade_any 120 _ _ _ (texts_one ww3 (T2.Tp.val a)) (by simp)
      rw [hmv] at hc4
      go_wp2_with fail
      refine hc4.mono ?_
      rintro ee4 ww4 ⟨rfl, hB4⟩
      have hB4 : Below ww3.heap.size ww3 ww4 := ((Below.refl _ _).alloc (Nat.le_refl _) _).trans (hB4.mono (by simp))
      have PP4 := PP3.kept hB4
      have GG4 := grownBy_below GG3 hB4
      clear hc4 hB4
      go_wp2_with fail
      go_ret
      exact ⟨rfl, PP4, GG4⟩
  rw [if_neg h6]
  have q0 : ((S (sg L k)).toList == [105, 110, 116]) = false := by rw [beq_SL]; simpa using h0
  have q1 : ((S (sg L k)).toList == [98, 111, 111, 108]) = false := by rw [beq_SL]; simpa using h1
  have q2 : ((S (sg L k)).toList == [116, 101, 120, 116]) = false := by rw [beq_SL]; simpa using h2
  have q3 : ((S (sg L k)).toList == [63]) = false := by rw [beq_SL]; simpa using h3
  have q4 : ((S (sg L k)).toList == [40]) = false := by rw [beq_SL]; simpa using h4
  have q5 : ((S (sg L k)).toList == [91]) = false := by rw [beq_SL]; simpa using h5
  have q6 : ((S (sg L k)).toList == [98, 111, 120]) = false := by rw [beq_SL]; simpa using h6
  clear h0
  clear h1
  clear h2
  clear h3
  clear h4
  clear h5
  clear h6
  clear hA hR
  go_enter Tryz.func153, Tryz.ntmps153
  have hsi1 := psign_any h he
  go_wp2_with fail
  refine hsi1.mono ?_
  rintro ee1 ww1 ⟨rfl, nn1, rfl⟩
  have PP1 := h.drewN nn1
  have GG1 : w.grownBy (w.drewN nn1) (some pb) := grownBy_drewN (grownBy_refl w (some pb)) nn1
  clear hsi1
  have hc := pmis_any PP1
  go_wp2_with fail
  refine hc.mono ?_
  rintro ee ww ⟨rfl, hB⟩
  have GG := grownBy_below GG1 hB
  clear hc
  go_wp2_with fail
  exact ⟨rfl, rfl, GG⟩
end Go.Proofs.YtohjfikjbeafiaaGreatDoor
namespace Go.Proofs.YtohjfikjbeafiaaGreatDoor
open Go.RowKit Ps
set_option maxRecDepth 100000
set_option linter.unusedSimpArgs false

/-- A place that is noted if none was. -/
def Ps.note (p q : Pl) : Pl := if p = (0, 0) then q else p
theorem Ps.note_yes (q : Pl) : note (0, 0) q = q := by simp [note]
theorem Ps.note_no {a b : Int} (h : ¬ (a = 0 ∧ b = 0)) (q : Pl) : note (a, b) q = (a, b) := by unfold note; rw [if_neg (by simpa using h)]

set_option maxHeartbeats 1000000 in
theorem ppass0_any {w : World} {pb : Nat} {L : List PT} {e : PT} {k : Nat} {lm : Lim} {fm am : Value} {nd : Nat} (h : Prs w pb L e k lm fm am nd) (ln co : Int) :
    Calls Tryz.prog 83 #[.pointer (some ⟨pb, 2, none⟩), .int .i64 0, .agg #[.int .i64 ln, .int .i64 co]] w fun e' w' => e' = .returned (.tuple #[]) ∧ Prs w' pb L e k { lm with p0 := note lm.p0 (ln, co) } fm am nd ∧ w.grownBy w' (some pb) := by
  obtain ⟨tb, o, c, h1, h2, h3, h4⟩ := h.blk
  have hlt := h.lt
  have hlen := h.len
  have hat := h.at'
  clear h
  obtain ⟨p0, p1, p2, p3, p4⟩ := lm
  obtain ⟨a, b⟩ := p0
  have hc := block_cells h1
  have c2 : w.cell? ⟨pb, 2, none⟩ = some (.int .i64 a) := hc.1 2
  have c3 : w.cell? ⟨pb, 3, none⟩ = some (.int .i64 b) := hc.1 3
  have f2 := hc.2
  have hB : ∀ o, Below w.heap.size w (w.alloc o) := fun o => (Below.refl _ _).alloc (Nat.le_refl _) o
  clear hc
  by_cases ha : a = 0 ∧ b = 0
  · obtain ⟨rfl, rfl⟩ := ha
    have HG : Aside (∀ o, w.grownBy ((((w.setCell ⟨pb, 2, none⟩ (.int .i64 ln)).setCell ⟨pb, 3, none⟩ (.int .i64 co)).alloc o).drew) (some pb)) := fun o => grownBy_drew (grownBy_alloc (grownBy_set (grownBy_set (grownBy_refl w _) _) _) o)
    have HP : Aside (∀ o', Prs ((((w.setCell ⟨pb, 2, none⟩ (.int .i64 ln)).setCell ⟨pb, 3, none⟩ (.int .i64 co)).alloc o').drew) pb L e k { (⟨(0, 0), p1, p2, p3, p4⟩ : Lim) with p0 := (ln, co) } fm am nd) := fun o' => by
      refine Prs.low (w := (w.setCell ⟨pb, 2, none⟩ (.int .i64 ln)).setCell ⟨pb, 3, none⟩ (.int .i64 co)) ?_ (fun j hj => Below.heap_alloc _ _ _ (by simp [World.setCell]; omega)) (by simp)
      refine ⟨⟨tb, o, c, ?_, ⟨by simpa [World.setCell] using h2.1, fun j hj i u hu => ?_⟩, h3, h4⟩, hlen, hat⟩
      · simp [World.setCell, Array.getElem?_modify, h1]
      · exact grownBy_cell (grownBy_set (grownBy_set (grownBy_refl w _) _) _) (by omega) (h2.2 j hj i u hu)
    clear h1 h2
    rw [note_yes]
    go_enter Tryz.func83, Tryz.ntmps83
    go_wp2_with fail
    go_region
    go_wp2_with fail
    try simp only [Exit.inBlock, Exit.then]
    refine bodyPost_end (results_none rfl _ _ _) rfl ?_
    exact ⟨rfl, HP.out _, HG.out _⟩
  · have HP : Aside (∀ o', Prs (w.alloc o') pb L e k ⟨(a, b), p1, p2, p3, p4⟩ fm am nd) := fun o' => Prs.kept ⟨⟨tb, o, c, h1, h2, h3, h4⟩, hlen, hat⟩ (hB o')
    have hab : ((a == 0) && (b == 0)) = false := by
      rw [Bool.eq_false_iff]; simpa using ha
    rw [show note (a, b) (ln, co) = (a, b) from note_no ha _]
    clear h1 h2
    by_cases ha0 : a = 0
    · subst ha0
      have hb0 : (b == 0) = false := by simpa using ha
      have hb1 : b ≠ 0 := by simpa using ha
      clear ha hab
      go_enter Tryz.func83, Tryz.ntmps83
      go_wp2_with fail
      try simp only [Exit.inBlock, Exit.then]
      refine bodyPost_end (results_none rfl _ _ _) rfl ?_
      exact ⟨rfl, HP.out _, grown_any (hB _) _⟩
    · have ha1 : (a == 0) = false := by simpa using ha0
      clear ha hab
      go_enter Tryz.func83, Tryz.ntmps83
      go_wp2_with fail
      try simp only [Exit.inBlock, Exit.then]
      refine bodyPost_end (results_none rfl _ _ _) rfl ?_
      exact ⟨rfl, HP.out _, grown_any (hB _) _⟩

set_option maxHeartbeats 1000000 in
theorem ppass1_any {w : World} {pb : Nat} {L : List PT} {e : PT} {k : Nat} {lm : Lim} {fm am : Value} {nd : Nat} (h : Prs w pb L e k lm fm am nd) (ln co : Int) :
    Calls Tryz.prog 83 #[.pointer (some ⟨pb, 2, none⟩), .int .i64 1, .agg #[.int .i64 ln, .int .i64 co]] w fun e' w' => e' = .returned (.tuple #[]) ∧ Prs w' pb L e k { lm with p1 := note lm.p1 (ln, co) } fm am nd ∧ w.grownBy w' (some pb) := by
  obtain ⟨tb, o, c, h1, h2, h3, h4⟩ := h.blk
  have hlt := h.lt
  have hlen := h.len
  have hat := h.at'
  clear h
  obtain ⟨p0, p1, p2, p3, p4⟩ := lm
  obtain ⟨a, b⟩ := p1
  have hc := block_cells h1
  have c2 : w.cell? ⟨pb, 4, none⟩ = some (.int .i64 a) := hc.1 4
  have c3 : w.cell? ⟨pb, 5, none⟩ = some (.int .i64 b) := hc.1 5
  have f2 := hc.2
  have hB : ∀ o, Below w.heap.size w (w.alloc o) := fun o => (Below.refl _ _).alloc (Nat.le_refl _) o
  clear hc
  by_cases ha : a = 0 ∧ b = 0
  · obtain ⟨rfl, rfl⟩ := ha
    have HG : Aside (∀ o, w.grownBy ((((w.setCell ⟨pb, 4, none⟩ (.int .i64 ln)).setCell ⟨pb, 5, none⟩ (.int .i64 co)).alloc o).drew) (some pb)) := fun o => grownBy_drew (grownBy_alloc (grownBy_set (grownBy_set (grownBy_refl w _) _) _) o)
    have HP : Aside (∀ o', Prs ((((w.setCell ⟨pb, 4, none⟩ (.int .i64 ln)).setCell ⟨pb, 5, none⟩ (.int .i64 co)).alloc o').drew) pb L e k { (⟨p0, (0, 0), p2, p3, p4⟩ : Lim) with p1 := (ln, co) } fm am nd) := fun o' => by
      refine Prs.low (w := (w.setCell ⟨pb, 4, none⟩ (.int .i64 ln)).setCell ⟨pb, 5, none⟩ (.int .i64 co)) ?_ (fun j hj => Below.heap_alloc _ _ _ (by simp [World.setCell]; omega)) (by simp)
      refine ⟨⟨tb, o, c, ?_, ⟨by simpa [World.setCell] using h2.1, fun j hj i u hu => ?_⟩, h3, h4⟩, hlen, hat⟩
      · simp [World.setCell, Array.getElem?_modify, h1]
      · exact grownBy_cell (grownBy_set (grownBy_set (grownBy_refl w _) _) _) (by omega) (h2.2 j hj i u hu)
    clear h1 h2
    rw [note_yes]
    go_enter Tryz.func83, Tryz.ntmps83
    go_wp2_with fail
    go_region
    go_wp2_with fail
    try simp only [Exit.inBlock, Exit.then]
    refine bodyPost_end (results_none rfl _ _ _) rfl ?_
    exact ⟨rfl, HP.out _, HG.out _⟩
  · have HP : Aside (∀ o', Prs (w.alloc o') pb L e k ⟨p0, (a, b), p2, p3, p4⟩ fm am nd) := fun o' => Prs.kept ⟨⟨tb, o, c, h1, h2, h3, h4⟩, hlen, hat⟩ (hB o')
    have hab : ((a == 0) && (b == 0)) = false := by
      rw [Bool.eq_false_iff]; simpa using ha
    rw [show note (a, b) (ln, co) = (a, b) from note_no ha _]
    clear h1 h2
    by_cases ha0 : a = 0
    · subst ha0
      have hb0 : (b == 0) = false := by simpa using ha
      have hb1 : b ≠ 0 := by simpa using ha
      clear ha hab
      go_enter Tryz.func83, Tryz.ntmps83
      go_wp2_with fail
      try simp only [Exit.inBlock, Exit.then]
      refine bodyPost_end (results_none rfl _ _ _) rfl ?_
      exact ⟨rfl, HP.out _, grown_any (hB _) _⟩
    · have ha1 : (a == 0) = false := by simpa using ha0
      clear ha hab
      go_enter Tryz.func83, Tryz.ntmps83
      go_wp2_with fail
      try simp only [Exit.inBlock, Exit.then]
      refine bodyPost_end (results_none rfl _ _ _) rfl ?_
      exact ⟨rfl, HP.out _, grown_any (hB _) _⟩

set_option maxHeartbeats 1000000 in
theorem ppass2_any {w : World} {pb : Nat} {L : List PT} {e : PT} {k : Nat} {lm : Lim} {fm am : Value} {nd : Nat} (h : Prs w pb L e k lm fm am nd) (ln co : Int) :
    Calls Tryz.prog 83 #[.pointer (some ⟨pb, 2, none⟩), .int .i64 2, .agg #[.int .i64 ln, .int .i64 co]] w fun e' w' => e' = .returned (.tuple #[]) ∧ Prs w' pb L e k { lm with p2 := note lm.p2 (ln, co) } fm am nd ∧ w.grownBy w' (some pb) := by
  obtain ⟨tb, o, c, h1, h2, h3, h4⟩ := h.blk
  have hlt := h.lt
  have hlen := h.len
  have hat := h.at'
  clear h
  obtain ⟨p0, p1, p2, p3, p4⟩ := lm
  obtain ⟨a, b⟩ := p2
  have hc := block_cells h1
  have c2 : w.cell? ⟨pb, 6, none⟩ = some (.int .i64 a) := hc.1 6
  have c3 : w.cell? ⟨pb, 7, none⟩ = some (.int .i64 b) := hc.1 7
  have f2 := hc.2
  have hB : ∀ o, Below w.heap.size w (w.alloc o) := fun o => (Below.refl _ _).alloc (Nat.le_refl _) o
  clear hc
  by_cases ha : a = 0 ∧ b = 0
  · obtain ⟨rfl, rfl⟩ := ha
    have HG : Aside (∀ o, w.grownBy ((((w.setCell ⟨pb, 6, none⟩ (.int .i64 ln)).setCell ⟨pb, 7, none⟩ (.int .i64 co)).alloc o).drew) (some pb)) := fun o => grownBy_drew (grownBy_alloc (grownBy_set (grownBy_set (grownBy_refl w _) _) _) o)
    have HP : Aside (∀ o', Prs ((((w.setCell ⟨pb, 6, none⟩ (.int .i64 ln)).setCell ⟨pb, 7, none⟩ (.int .i64 co)).alloc o').drew) pb L e k { (⟨p0, p1, (0, 0), p3, p4⟩ : Lim) with p2 := (ln, co) } fm am nd) := fun o' => by
      refine Prs.low (w := (w.setCell ⟨pb, 6, none⟩ (.int .i64 ln)).setCell ⟨pb, 7, none⟩ (.int .i64 co)) ?_ (fun j hj => Below.heap_alloc _ _ _ (by simp [World.setCell]; omega)) (by simp)
      refine ⟨⟨tb, o, c, ?_, ⟨by simpa [World.setCell] using h2.1, fun j hj i u hu => ?_⟩, h3, h4⟩, hlen, hat⟩
      · simp [World.setCell, Array.getElem?_modify, h1]
      · exact grownBy_cell (grownBy_set (grownBy_set (grownBy_refl w _) _) _) (by omega) (h2.2 j hj i u hu)
    clear h1 h2
    rw [note_yes]
    go_enter Tryz.func83, Tryz.ntmps83
    go_wp2_with fail
    go_region
    go_wp2_with fail
    try simp only [Exit.inBlock, Exit.then]
    refine bodyPost_end (results_none rfl _ _ _) rfl ?_
    exact ⟨rfl, HP.out _, HG.out _⟩
  · have HP : Aside (∀ o', Prs (w.alloc o') pb L e k ⟨p0, p1, (a, b), p3, p4⟩ fm am nd) := fun o' => Prs.kept ⟨⟨tb, o, c, h1, h2, h3, h4⟩, hlen, hat⟩ (hB o')
    have hab : ((a == 0) && (b == 0)) = false := by
      rw [Bool.eq_false_iff]; simpa using ha
    rw [show note (a, b) (ln, co) = (a, b) from note_no ha _]
    clear h1 h2
    by_cases ha0 : a = 0
    · subst ha0
      have hb0 : (b == 0) = false := by simpa using ha
      have hb1 : b ≠ 0 := by simpa using ha
      clear ha hab
      go_enter Tryz.func83, Tryz.ntmps83
      go_wp2_with fail
      try simp only [Exit.inBlock, Exit.then]
      refine bodyPost_end (results_none rfl _ _ _) rfl ?_
      exact ⟨rfl, HP.out _, grown_any (hB _) _⟩
    · have ha1 : (a == 0) = false := by simpa using ha0
      clear ha hab
      go_enter Tryz.func83, Tryz.ntmps83
      go_wp2_with fail
      try simp only [Exit.inBlock, Exit.then]
      refine bodyPost_end (results_none rfl _ _ _) rfl ?_
      exact ⟨rfl, HP.out _, grown_any (hB _) _⟩

set_option maxHeartbeats 1000000 in
theorem ppass3_any {w : World} {pb : Nat} {L : List PT} {e : PT} {k : Nat} {lm : Lim} {fm am : Value} {nd : Nat} (h : Prs w pb L e k lm fm am nd) (ln co : Int) :
    Calls Tryz.prog 83 #[.pointer (some ⟨pb, 2, none⟩), .int .i64 3, .agg #[.int .i64 ln, .int .i64 co]] w fun e' w' => e' = .returned (.tuple #[]) ∧ Prs w' pb L e k { lm with p3 := note lm.p3 (ln, co) } fm am nd ∧ w.grownBy w' (some pb) := by
  obtain ⟨tb, o, c, h1, h2, h3, h4⟩ := h.blk
  have hlt := h.lt
  have hlen := h.len
  have hat := h.at'
  clear h
  obtain ⟨p0, p1, p2, p3, p4⟩ := lm
  obtain ⟨a, b⟩ := p3
  have hc := block_cells h1
  have c2 : w.cell? ⟨pb, 8, none⟩ = some (.int .i64 a) := hc.1 8
  have c3 : w.cell? ⟨pb, 9, none⟩ = some (.int .i64 b) := hc.1 9
  have f2 := hc.2
  have hB : ∀ o, Below w.heap.size w (w.alloc o) := fun o => (Below.refl _ _).alloc (Nat.le_refl _) o
  clear hc
  by_cases ha : a = 0 ∧ b = 0
  · obtain ⟨rfl, rfl⟩ := ha
    have HG : Aside (∀ o, w.grownBy ((((w.setCell ⟨pb, 8, none⟩ (.int .i64 ln)).setCell ⟨pb, 9, none⟩ (.int .i64 co)).alloc o).drew) (some pb)) := fun o => grownBy_drew (grownBy_alloc (grownBy_set (grownBy_set (grownBy_refl w _) _) _) o)
    have HP : Aside (∀ o', Prs ((((w.setCell ⟨pb, 8, none⟩ (.int .i64 ln)).setCell ⟨pb, 9, none⟩ (.int .i64 co)).alloc o').drew) pb L e k { (⟨p0, p1, p2, (0, 0), p4⟩ : Lim) with p3 := (ln, co) } fm am nd) := fun o' => by
      refine Prs.low (w := (w.setCell ⟨pb, 8, none⟩ (.int .i64 ln)).setCell ⟨pb, 9, none⟩ (.int .i64 co)) ?_ (fun j hj => Below.heap_alloc _ _ _ (by simp [World.setCell]; omega)) (by simp)
      refine ⟨⟨tb, o, c, ?_, ⟨by simpa [World.setCell] using h2.1, fun j hj i u hu => ?_⟩, h3, h4⟩, hlen, hat⟩
      · simp [World.setCell, Array.getElem?_modify, h1]
      · exact grownBy_cell (grownBy_set (grownBy_set (grownBy_refl w _) _) _) (by omega) (h2.2 j hj i u hu)
    clear h1 h2
    rw [note_yes]
    go_enter Tryz.func83, Tryz.ntmps83
    go_wp2_with fail
    go_region
    go_wp2_with fail
    try simp only [Exit.inBlock, Exit.then]
    refine bodyPost_end (results_none rfl _ _ _) rfl ?_
    exact ⟨rfl, HP.out _, HG.out _⟩
  · have HP : Aside (∀ o', Prs (w.alloc o') pb L e k ⟨p0, p1, p2, (a, b), p4⟩ fm am nd) := fun o' => Prs.kept ⟨⟨tb, o, c, h1, h2, h3, h4⟩, hlen, hat⟩ (hB o')
    have hab : ((a == 0) && (b == 0)) = false := by
      rw [Bool.eq_false_iff]; simpa using ha
    rw [show note (a, b) (ln, co) = (a, b) from note_no ha _]
    clear h1 h2
    by_cases ha0 : a = 0
    · subst ha0
      have hb0 : (b == 0) = false := by simpa using ha
      have hb1 : b ≠ 0 := by simpa using ha
      clear ha hab
      go_enter Tryz.func83, Tryz.ntmps83
      go_wp2_with fail
      try simp only [Exit.inBlock, Exit.then]
      refine bodyPost_end (results_none rfl _ _ _) rfl ?_
      exact ⟨rfl, HP.out _, grown_any (hB _) _⟩
    · have ha1 : (a == 0) = false := by simpa using ha0
      clear ha hab
      go_enter Tryz.func83, Tryz.ntmps83
      go_wp2_with fail
      try simp only [Exit.inBlock, Exit.then]
      refine bodyPost_end (results_none rfl _ _ _) rfl ?_
      exact ⟨rfl, HP.out _, grown_any (hB _) _⟩

set_option maxHeartbeats 1000000 in
theorem ppass4_any {w : World} {pb : Nat} {L : List PT} {e : PT} {k : Nat} {lm : Lim} {fm am : Value} {nd : Nat} (h : Prs w pb L e k lm fm am nd) (ln co : Int) :
    Calls Tryz.prog 83 #[.pointer (some ⟨pb, 2, none⟩), .int .i64 4, .agg #[.int .i64 ln, .int .i64 co]] w fun e' w' => e' = .returned (.tuple #[]) ∧ Prs w' pb L e k { lm with p4 := note lm.p4 (ln, co) } fm am nd ∧ w.grownBy w' (some pb) := by
  obtain ⟨tb, o, c, h1, h2, h3, h4⟩ := h.blk
  have hlt := h.lt
  have hlen := h.len
  have hat := h.at'
  clear h
  obtain ⟨p0, p1, p2, p3, p4⟩ := lm
  obtain ⟨a, b⟩ := p4
  have hc := block_cells h1
  have c2 : w.cell? ⟨pb, 10, none⟩ = some (.int .i64 a) := hc.1 10
  have c3 : w.cell? ⟨pb, 11, none⟩ = some (.int .i64 b) := hc.1 11
  have f2 := hc.2
  have hB : ∀ o, Below w.heap.size w (w.alloc o) := fun o => (Below.refl _ _).alloc (Nat.le_refl _) o
  clear hc
  by_cases ha : a = 0 ∧ b = 0
  · obtain ⟨rfl, rfl⟩ := ha
    have HG : Aside (∀ o, w.grownBy ((((w.setCell ⟨pb, 10, none⟩ (.int .i64 ln)).setCell ⟨pb, 11, none⟩ (.int .i64 co)).alloc o).drew) (some pb)) := fun o => grownBy_drew (grownBy_alloc (grownBy_set (grownBy_set (grownBy_refl w _) _) _) o)
    have HP : Aside (∀ o', Prs ((((w.setCell ⟨pb, 10, none⟩ (.int .i64 ln)).setCell ⟨pb, 11, none⟩ (.int .i64 co)).alloc o').drew) pb L e k { (⟨p0, p1, p2, p3, (0, 0)⟩ : Lim) with p4 := (ln, co) } fm am nd) := fun o' => by
      refine Prs.low (w := (w.setCell ⟨pb, 10, none⟩ (.int .i64 ln)).setCell ⟨pb, 11, none⟩ (.int .i64 co)) ?_ (fun j hj => Below.heap_alloc _ _ _ (by simp [World.setCell]; omega)) (by simp)
      refine ⟨⟨tb, o, c, ?_, ⟨by simpa [World.setCell] using h2.1, fun j hj i u hu => ?_⟩, h3, h4⟩, hlen, hat⟩
      · simp [World.setCell, Array.getElem?_modify, h1]
      · exact grownBy_cell (grownBy_set (grownBy_set (grownBy_refl w _) _) _) (by omega) (h2.2 j hj i u hu)
    clear h1 h2
    rw [note_yes]
    go_enter Tryz.func83, Tryz.ntmps83
    go_wp2_with fail
    go_region
    go_wp2_with fail
    try simp only [Exit.inBlock, Exit.then]
    refine bodyPost_end (results_none rfl _ _ _) rfl ?_
    exact ⟨rfl, HP.out _, HG.out _⟩
  · have HP : Aside (∀ o', Prs (w.alloc o') pb L e k ⟨p0, p1, p2, p3, (a, b)⟩ fm am nd) := fun o' => Prs.kept ⟨⟨tb, o, c, h1, h2, h3, h4⟩, hlen, hat⟩ (hB o')
    have hab : ((a == 0) && (b == 0)) = false := by
      rw [Bool.eq_false_iff]; simpa using ha
    rw [show note (a, b) (ln, co) = (a, b) from note_no ha _]
    clear h1 h2
    by_cases ha0 : a = 0
    · subst ha0
      have hb0 : (b == 0) = false := by simpa using ha
      have hb1 : b ≠ 0 := by simpa using ha
      clear ha hab
      go_enter Tryz.func83, Tryz.ntmps83
      go_wp2_with fail
      try simp only [Exit.inBlock, Exit.then]
      refine bodyPost_end (results_none rfl _ _ _) rfl ?_
      exact ⟨rfl, HP.out _, grown_any (hB _) _⟩
    · have ha1 : (a == 0) = false := by simpa using ha0
      clear ha hab
      go_enter Tryz.func83, Tryz.ntmps83
      go_wp2_with fail
      try simp only [Exit.inBlock, Exit.then]
      refine bodyPost_end (results_none rfl _ _ _) rfl ?_
      exact ⟨rfl, HP.out _, grown_any (hB _) _⟩
end Go.Proofs.YtohjfikjbeafiaaGreatDoor
namespace Go.Proofs.YtohjfikjbeafiaaGreatDoor
open Go.RowKit Ps
set_option maxRecDepth 100000
set_option linter.unusedSimpArgs false

theorem ty_all {pb : Nat} {L : List PT} {e : PT} {fm am : Value} (he : e.kind = 0) : ∀ d, ArmC pb L e fm am d ∧ ArrC pb L e fm am d
  | 0 => ⟨fun _ _ _ _ h _ => absurd h (by omega), fun _ _ _ _ h _ => absurd h (by omega)⟩
  | d + 1 => ⟨arm_step he (ty_all he d).1 (ty_all he d).2, arrow_step he (ty_all he d).1 (ty_all he d).2⟩

namespace Ps
/-- A type that is no part of another one. -/
def tyW (L : List PT) (k : Nat) : Rd T2.Tp.Ty := ty L (2 * (L.length - k) + 2) true k
theorem tyW_within (L : List PT) (k : Nat) (h : k ≤ L.length) : Within L k (tyW L k) := ty_within L _ true k h
/-- Where the first type that is too large was written. -/
def lgOf (L : List PT) (e : PT) (lm : Lim) (k : Nat) (t : T2.Tp.Ty) : Lim := if (T2.Tp.enc t).length ≤ 64 then lm else { lm with p0 := note lm.p0 ((tok L e k).ln, (tok L e k).co) }
/-- An annotation, if there is one. -/
def noteT (L : List PT) (k : Nat) : Rd (Option T2.Tp.Ty) := if sg L k = [58] then (match tyW L (k + 1) with
  | .error j => .error j
  | .ok (t, j) => .ok (some t, j)) else .ok (none, k)
def lgO (L : List PT) (e : PT) (lm : Lim) (k : Nat) : Option T2.Tp.Ty → Lim
  | none => lm
  | some t => lgOf L e lm (k + 1) t
def valO : Option T2.Tp.Ty → List UInt8
  | none => []
  | some t => T2.Tp.val t
theorem Prs.drew {w : World} {pb : Nat} {L : List PT} {e : PT} {k : Nat} {lm : Lim} {fm am : Value} {nd : Nat} (h : Prs w pb L e k lm fm am nd) : Prs w.drew pb L e k lm fm am nd := h.kept ⟨rfl, rfl, rfl, Nat.le_refl _, fun _ _ => rfl⟩
end Ps
/-- How a reading of a whole type ends. -/
def TwEnd (w : World) (pb : Nat) (L : List PT) (e : PT) (lm : Lim) (fm am : Value) (nd : Nat) (k : Nat) : Rd T2.Tp.Ty → Ending → World → Prop
  | .error j, e', w' => Threw w pb L e j e' w'
  | .ok (t, j), e', w' => e' = .returned (.string (S (T2.Tp.val t))) ∧ Prs w' pb L e j (lgOf L e lm k t) fm am nd ∧ w.grownBy w' (some pb)
/-- How a reading of an annotation ends. -/
def NoEnd (w : World) (pb : Nat) (L : List PT) (e : PT) (lm : Lim) (fm am : Value) (nd : Nat) (k : Nat) : Rd (Option T2.Tp.Ty) → Ending → World → Prop
  | .error j, e', w' => Threw w pb L e j e' w'
  | .ok (t, j), e', w' => e' = .returned (.string (S (valO t))) ∧ Prs w' pb L e j (lgO L e lm k t) fm am nd ∧ w.grownBy w' (some pb)
theorem val_nil (t : T2.Tp.Ty) : T2.Tp.val t = [] ↔ ¬ (T2.Tp.enc t).length ≤ 64 := by
  unfold T2.Tp.val
  split
  · rename_i h; have := T2.Tp.enc_pos t; constructor
    · intro h'; rw [h'] at this; simp at this
    · intro h'; exact absurd h h'
  · rename_i h; simp [h]

set_option maxHeartbeats 2000000 in
theorem written_any {w : World} {pb : Nat} {L : List PT} {e : PT} {k : Nat} {lm : Lim} {fm am : Value} {nd : Nat} (he : e.kind = 0) (h : Prs w pb L e k lm fm am nd) :
    Calls Tryz.prog 61 #[.pointer (some ⟨pb, 0, none⟩)] w (TwEnd w pb L e lm fm am nd k (tyW L k)) := by
  have hpl := pplace_any h
  have hlt := h.lt
  have HA : Aside (∀ W o', Below w.heap.size w W → Prs (W.alloc o') pb L e k lm fm am nd ∧ w.grownBy (W.alloc o') (some pb) ∧ (W.alloc o').heap[W.heap.size]? = some o' ∧ pb < W.heap.size) := fun W o' hB => ⟨h.kept (hB.alloc hB.size o'), grown_any (hB.alloc hB.size o') _, heap_alloc_new _ _, by have := hB.size; omega⟩
  have hR := (ty_all (pb := pb) (L := L) (e := e) (fm := fm) (am := am) he (2 * (L.length - k) + 2)).2
  cases hr : tyW L k with
  | error j =>
    clear h
    go_enter Tryz.func61, Tryz.ntmps61
    go_wp2_with fail
    refine hpl.mono ?_
    rintro e1 w1 ⟨rfl, hB1⟩
    obtain ⟨P1, G1, k1, h1⟩ := HA.out w1 (.cells #[.int .i64 (tok L e k).ln, .int .i64 (tok L e k).co] 28) hB1
    have hrr := hR _ k lm nd (Nat.le_refl _) P1
    rw [show ty L (2 * (L.length - k) + 2) true k = .error j from hr] at hrr
    clear hpl HA hR
    go_wp2_with fail
    refine hrr.mono ?_
    rintro e2 w2 ⟨rfl, g2⟩
    have GG := grownBy_trans G1 g2
    go_wp2_with fail
    exact ⟨rfl, rfl, GG⟩
  | ok p =>
    obtain ⟨t, j⟩ := p
    by_cases hv : (T2.Tp.enc t).length ≤ 64
    · have HL : Aside (lgOf L e lm k t = lm) := by show _ = _; unfold lgOf; rw [if_pos hv]
      have hq : (S (T2.Tp.val t)).toList.isEmpty = false := by
        have := val_nil t
        rw [ByteArray.toList_eq, S_list]
        cases hh : T2.Tp.val t with
        | nil => exact absurd hv (this.1 hh)
        | cons _ _ => rfl
      clear h hv
      go_enter Tryz.func61, Tryz.ntmps61
      go_wp2_with fail
      refine hpl.mono ?_
      rintro e1 w1 ⟨rfl, hB1⟩
      obtain ⟨P1, G1, k1, h1⟩ := HA.out w1 (.cells #[.int .i64 (tok L e k).ln, .int .i64 (tok L e k).co] 28) hB1
      have hrr := hR _ k lm nd (Nat.le_refl _) P1
      rw [show ty L (2 * (L.length - k) + 2) true k = .ok (t, j) from hr] at hrr
      clear hpl HA hR
      go_wp2_with fail
      refine hrr.mono ?_
      rintro e2 w2 ⟨rfl, P2, g2⟩
      have GG := grownBy_trans G1 g2
      clear hrr g2 G1 P1 hr
      go_wp2_with fail
      go_ret
      exact ⟨rfl, by rw [HL.out]; exact P2, GG⟩
    · have HL : Aside (lgOf L e lm k t = { lm with p0 := note lm.p0 ((tok L e k).ln, (tok L e k).co) }) := by show _ = _; unfold lgOf; rw [if_neg hv]
      have hvn : T2.Tp.val t = [] := (val_nil t).2 hv
      have hq : (S []).toList.isEmpty = true := by rw [ByteArray.toList_eq]; rfl
      show Calls Tryz.prog 61 #[.pointer (some ⟨pb, 0, none⟩)] w fun e' w' => e' = .returned (.string (S (T2.Tp.val t))) ∧ Prs w' pb L e j (lgOf L e lm k t) fm am nd ∧ w.grownBy w' (some pb)
      rw [hvn]
      clear h hv
      go_enter Tryz.func61, Tryz.ntmps61
      go_wp2_with fail
      refine hpl.mono ?_
      rintro e1 w1 ⟨rfl, hB1⟩
      obtain ⟨P1, G1, k1, h1⟩ := HA.out w1 (.cells #[.int .i64 (tok L e k).ln, .int .i64 (tok L e k).co] 28) hB1
      have hrr := hR _ k lm nd (Nat.le_refl _) P1
      rw [show ty L (2 * (L.length - k) + 2) true k = .ok (t, j) from hr] at hrr
      clear hpl HA hR
      go_wp2_with fail
      refine hrr.mono ?_
      rintro e2 w2 ⟨rfl, P2, g2⟩
      rw [hvn]
      have GG := grownBy_trans G1 g2
      have k2 := (g2.block w1.heap.size (by simp) (by simp; omega)).trans k1
      have c0 := (block_cells k2).1 0
      have c1 := (block_cells k2).1 1
      have hps := fun W (hW : Prs W pb L e j lm fm am nd) => ppass0_any hW (tok L e k).ln (tok L e k).co
      have P3 := P2.drew
      clear hrr g2 G1 P1 hr k1 k2 hvn
      go_upto_region 4 with fail
      go_region_with (go_at_call 83; refine (hps _ (by exact P3)).mono ?_; rintro e3 w3 ⟨rfl, P4, g4⟩; have GG2 : w.grownBy w3 (some pb) := grownBy_trans (grownBy_drew GG) g4)
      all_goals
        go_wp2_with fail
        go_ret
        exact ⟨rfl, by rw [HL.out]; exact P4, GG2⟩

set_option maxHeartbeats 2000000 in
theorem annotation_any {w : World} {pb : Nat} {L : List PT} {e : PT} {k : Nat} {lm : Lim} {fm am : Value} {nd : Nat} (he : e.kind = 0) (h : Prs w pb L e k lm fm am nd) :
    Calls Tryz.prog 175 #[.pointer (some ⟨pb, 0, none⟩)] w (NoEnd w pb L e lm fm am nd k (noteT L k)) := by
  have hsi := psign_any h he
  unfold noteT
  by_cases hs : sg L k = [58]
  · rw [if_pos hs]
    have hlt := sg_lt hs
    have hq : ((S (sg L k)).toList == [58]) = true := by rw [beq_SL]; simpa using hs
    clear hs
    cases hr : tyW L (k + 1) with
    | error j =>
      go_enter Tryz.func175, Tryz.ntmps175
      go_wp2_with fail
      refine hsi.mono ?_
      rintro e1 w1 ⟨rfl, n, rfl⟩
      have htk := ptake_any (h.drewN n) hlt
      go_wp2_with fail
      refine htk.mono ?_
      rintro e2 w2 ⟨rfl, P2, g2⟩
      have hwr := written_any he P2
      rw [hr] at hwr
      go_wp2_with fail
      refine hwr.mono ?_
      rintro e3 w3 ⟨rfl, g3⟩
      have GG : w.grownBy w3 (some pb) := grownBy_trans (grownBy_trans (grownBy_drewN (grownBy_refl w _) n) g2) g3
      clear hsi htk hwr g2 g3 P2
      go_wp2_with fail
      exact ⟨rfl, rfl, GG⟩
    | ok p =>
      obtain ⟨t, j⟩ := p
      go_enter Tryz.func175, Tryz.ntmps175
      go_wp2_with fail
      refine hsi.mono ?_
      rintro e1 w1 ⟨rfl, n, rfl⟩
      have htk := ptake_any (h.drewN n) hlt
      go_wp2_with fail
      refine htk.mono ?_
      rintro e2 w2 ⟨rfl, P2, g2⟩
      have hwr := written_any he P2
      rw [hr] at hwr
      go_wp2_with fail
      refine hwr.mono ?_
      rintro e3 w3 ⟨rfl, P3, g3⟩
      have GG : w.grownBy w3 (some pb) := grownBy_trans (grownBy_trans (grownBy_drewN (grownBy_refl w _) n) g2) g3
      clear hsi htk hwr g2 g3 P2
      go_wp2_with fail
      go_ret
      exact ⟨rfl, P3, GG⟩
  · rw [if_neg hs]
    have hq : ((S (sg L k)).toList == [58]) = false := by rw [beq_SL]; simpa using hs
    clear hs
    go_enter Tryz.func175, Tryz.ntmps175
    go_wp2_with fail
    refine hsi.mono ?_
    rintro e1 w1 ⟨rfl, n, rfl⟩
    go_wp2_with fail
    go_ret
    exact ⟨rfl, h.drewN n, grownBy_drewN (grownBy_refl w _) n⟩
end Go.Proofs.YtohjfikjbeafiaaGreatDoor
