/- What lives answers. -/
import Derived.Test.YteaolcfpdhlohaaDoorLbG
import Derived.Test.YteaolcfpdhlohaaDoorLbH
namespace Go.Proofs.YteaolcfpdhlohaaDoor
open Go.RowKit
set_option maxRecDepth 100000
set_option linter.unusedSimpArgs false

def livesL : List Lb.Si := [⟨S [109, 97, 105, 110], S [108, 105, 98], 0, 0, 18⟩]
theorem livesL_is (w : World) : IsSites (w.alloc (.cells #[.string (S [109, 97, 105, 110]), .string (S [108, 105, 98]), .int .i64 0, .int .i64 0, .int .i64 18] 31)) (.slice (some ⟨w.heap.size, 0, none⟩) 1 1) livesL :=
  IsSites.lit w livesL 31 (0, 0) 1 (Nat.le_refl _)

set_option maxHeartbeats 4000000 in
theorem lives_any (w : World) (hW : HasW w) :
    Calls Tryd.prog 7 #[] w fun e w' => e = .returned (.bool true) ∧ Below w.heap.size w w' := by
  have hn1 := fun v w hl => named_some livesL (by decide) 1 (by decide) (by decide) ⟨S [109, 97, 105, 110], S [108, 105, 98], 0, 0, 18⟩ rfl v w hl
  have hn2 := fun v w hl => named_some livesL (by decide) (-1) (by decide) (by decide) ⟨S [109, 97, 105, 110], S [108, 105, 98], 0, 0, 18⟩ rfl v w hl
  have hn3 := fun v w hl => named_none livesL (by decide) 2 (by decide) (by decide) rfl v w hl
  have hs := side_any (-7) (by decide) (by decide)
  have ht := turn_any (-7) (by decide) (by decide)
  have hr := fun w hW => rule_any 4 w hW
  rw [show Lb.who ⟨S [109, 97, 105, 110], S [108, 105, 98], 0, 0, 18⟩ 1 = S [108, 105, 98] from rfl] at hn1
  rw [show Lb.who ⟨S [109, 97, 105, 110], S [108, 105, 98], 0, 0, 18⟩ (-1) = S [109, 97, 105, 110] from rfl] at hn2
  rw [show Lb.lab (-7) = 7 from rfl, show Lb.ins (-7) = false from rfl] at hs
  rw [show Lb.turn (-7) = 7 from rfl] at ht
  rw [show Lb.word 4 = [97, 114, 103, 117, 109, 101, 110, 116] from rfl] at hr
  have hl0 := livesL_is w
  have hB0 : Below w.heap.size w (w.alloc (.cells #[.string (S [109, 97, 105, 110]), .string (S [108, 105, 98]), .int .i64 0, .int .i64 0, .int .i64 18] 31)) := (Below.refl _ _).alloc (Nat.le_refl _) _
  have hW0 := hW.below hB0
  unfold S at *
  go_enter Tryd.func7, Tryd.ntmps7
  go_upto_region 2 with fail
  generalize w.alloc _ = w0 at *
  go_wp2_with fail
  go_at_call 13
  refine (hn1 _ _ hl0).mono ?_
  rintro e w1 ⟨rfl, hB1⟩
  have hl1 := hl0.below hB1
  go_wp2_with fail
  go_at_call 13
  refine (hn2 _ _ hl1).mono ?_
  rintro e w2 ⟨rfl, hB2⟩
  have hl2 := hl1.below hB2
  go_wp2_with fail
  go_at_call 13
  refine (hn3 _ _ hl2).mono ?_
  rintro e w3 ⟨rfl, hB3⟩
  have hW3 := ((hW0.below hB1).below hB2).below hB3
  clear hl0 hl1 hl2 hn1 hn2 hn3
  go_wp2_with (first | (go_at_call 9; refine (hs _).mono ?_; rintro e w' ⟨rfl, hw'⟩; replace hw' := hw'.symm; subst hw') | (go_at_call 17; refine (ht _).mono ?_; rintro e w' ⟨rfl, hw'⟩; replace hw' := hw'.symm; subst hw') | (go_at_call 19; refine (hr _ hW3).mono ?_; rintro e w' ⟨rfl, hw'⟩; replace hw' := hw'.symm; subst hw'))
  go_ret
  exact ⟨rfl, bt (bt (bt hB0 hB1) hB2) hB3⟩
end Go.Proofs.YteaolcfpdhlohaaDoor
