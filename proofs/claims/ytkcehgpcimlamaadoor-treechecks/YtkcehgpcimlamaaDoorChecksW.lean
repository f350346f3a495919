/- TreeChecks returns true, whatever list is handed in. -/
import Derived.Test.YtkcehgpcimlamaaDoorRefE
import Derived.Test.YtkcehgpcimlamaaDoorRefF
namespace Go.Proofs.YtkcehgpcimlamaaDoor
open Go.RowKit
set_option maxRecDepth 100000
set_option linter.unusedSimpArgs false

theorem below_undrewN {b n : Nat} {w w' : World} (h : Below b (w.drewN n) w') : Below b w w' := ⟨h.os, h.tape, h.output, h.size, h.block⟩

set_option maxHeartbeats 8000000 in
theorem treeChecks_any (l : List Tr.Nd) (hf : Fits l) (hT : Texts l) (v : Value) (w : World) (hl : IsNodes w v l) :
    Calls Tryd.prog 3 #[v] w fun e w' => e = .returned (.bool true) ∧ Below w.heap.size w w' := by
  obtain ⟨a, c, rfl⟩ := hl.form
  go_enter Tryd.func3, Tryd.ntmps3
  go_upto_region 2 with (go_at_call 8; refine (works_any _).mono ?_; rintro e w1 ⟨rfl, hB1⟩)
  have hl1 := hl.below hB1
  have hs := sizeNodes_any l hf.len hT _ w1 hl1
  go_upto_region 4 with (first | (go_at_call 10; refine hs.mono ?_; rintro e w2 ⟨z, rfl, hz, n, hw2⟩; subst hw2) | (go_at_call 9; refine (long_any _ _).mono ?_; rintro e w' ⟨rfl, hw'⟩; replace hw' := hw'.symm; subst hw'))
  · go_ret
    exact ⟨rfl, below_drewN hB1 _⟩
  · have hz2 : (z : Int) ≤ 2147483647 := by assumption
    have hlen : l.length ≤ 2147483647 := by omega
    have hl2 : IsNodes (w1.drewN n) (.slice a l.length c) l := hl1.below (below_drewN (Below.refl _ _) n)
    have hA2 : Below w.heap.size w (w1.drewN n) := below_drewN hB1 n
    clear hs hl1 hB1 hz2 hz
    generalize w1.drewN n = w2 at *
    go_wp2_with fail
    refine (wideNodes_any l hlen _ w2 hl2).mono ?_
    rintro e w3 ⟨rfl, hW3, hB3⟩
    have hl3 := hl2.below hB3
    have hA3 := bt hA2 hB3
    generalize w2.heap.size = g at hW3 ⊢
    clear hl2 hA2 hB3
    go_wp2_with fail
    refine (treeCheck_any l hf _ w3 hW3.nodes).mono ?_
    rintro e w4 ⟨rfl, hB4⟩
    have hl4 := hl3.below hB4
    have hW4 := hW3.below hB4
    have hA4 := bt hA3 hB4
    clear hl3 hW3 hA3 hB4
    go_wp2_with fail
    refine (refCheck_any l hf _ w4 hl4).mono ?_
    rintro e w5 ⟨rfl, hB5⟩
    have hl5 := hl4.below hB5
    have hW5 := hW4.below hB5
    have hA5 := bt hA4 hB5
    clear hl4 hW4 hA4 hB5
    generalize ((chkN l).1 : Int) = r1
    generalize ((chkN l).2 : Int) = r2
    go_wp2_with fail
    refine (eqNodes_same l hf.len _ _ w5 hW5.nodes hl5).mono ?_
    rintro e w6 ⟨rfl, m, rfl⟩
    have hW6 : Wide (w5.drewN m) g l := hW5.below (below_drewN (Below.refl _ _) m)
    have hA6 : Below w.heap.size w (w5.drewN m) := below_drewN hA5 m
    clear hl5 hW5 hA5
    generalize w5.drewN m = w6 at *
    go_wp2_with fail
    refine (spareNodes_any l hlen g w6 hW6).mono ?_
    rintro e w7 ⟨rfl, hB7⟩
    have hA7 := bt hA6 hB7
    clear hW6 hA6 hB7
    go_wp2_with fail
    go_ret
    exact ⟨rfl, hA7⟩
end Go.Proofs.YtkcehgpcimlamaaDoor
