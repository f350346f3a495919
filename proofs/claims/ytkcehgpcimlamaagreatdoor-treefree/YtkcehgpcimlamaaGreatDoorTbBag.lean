/- The bag: all but the lists of texts are empty. -/
import Derived.Test.YtkcehgpcimlamaaGreatDoorTbBagA
import Derived.Test.YtkcehgpcimlamaaGreatDoorTbBagB
import Derived.Test.YtkcehgpcimlamaaGreatDoorTbBagC
namespace Go.Proofs.YtkcehgpcimlamaaGreatDoor.Tb
open Go.RowKit

/-- All lists of the bag but those of texts are empty. -/
def Bare (w : World) (B : Nat) : Prop := ∀ k, k < 18 → k ≠ 4 → w.cell? ⟨B, k, none⟩ = some (.slice none 0 0)

set_option maxRecDepth 100000 in
set_option maxHeartbeats 4000000 in
theorem apart_of (B : Nat) (Q : World → Prop) (w : World) (hz : Bare w B) (hT : Calls Tryz.prog 28 #[.pointer (some ⟨B, 0, none⟩)] w fun e w' => e = .returned (.bool true) ∧ Bare w' B ∧ Q w') :
    Calls Tryz.prog 10 #[.pointer (some ⟨B, 0, none⟩)] w fun e w' => e = .returned (.bool true) ∧ Q w' := by
  have HZ : Aside (Bare w B) := hz
  clear hz
  go_enter Tryz.func10, Tryz.ntmps10
  go_wp2_with (first
    | (go_at_call 24; refine (apartBytes_none B _ (HZ.out 0 (by decide) (by decide))).mono ?_; rintro e w' ⟨rfl, hw'⟩; subst hw')
    | (go_at_call 25; refine (apartInts_none B _ (HZ.out 1 (by decide) (by decide))).mono ?_; rintro e w' ⟨rfl, hw'⟩; subst hw')
    | (go_at_call 26; refine (apartLongs_none B _ (HZ.out 2 (by decide) (by decide))).mono ?_; rintro e w' ⟨rfl, hw'⟩; subst hw')
    | (go_at_call 27; refine (apartBools_none B _ (HZ.out 3 (by decide) (by decide))).mono ?_; rintro e w' ⟨rfl, hw'⟩; subst hw')
    | (go_at_call 28; refine hT.mono ?_; rintro e w2 ⟨rfl, hz2, hQ⟩; clear hT HZ; have HZ2 : Aside (Bare w2 B) := hz2; clear hz2)
    | (go_at_call 29; refine (apartNodes_none B _ (HZ2.out 5 (by decide) (by decide))).mono ?_; rintro e w' ⟨rfl, hw'⟩; subst hw')
    | (go_at_call 30; refine (apartCos_none B _ (HZ2.out 6 (by decide) (by decide))).mono ?_; rintro e w' ⟨rfl, hw'⟩; subst hw')
    | (go_at_call 31; refine (apartSeen_none B _ (HZ2.out 7 (by decide) (by decide))).mono ?_; rintro e w' ⟨rfl, hw'⟩; subst hw')
    | (go_at_call 32; refine (apartSites_none B _ (HZ2.out 8 (by decide) (by decide))).mono ?_; rintro e w' ⟨rfl, hw'⟩; subst hw')
    | (go_at_call 33; refine (apartIns_none B _ (HZ2.out 9 (by decide) (by decide))).mono ?_; rintro e w' ⟨rfl, hw'⟩; subst hw')
    | (go_at_call 34; refine (apartImports_none B _ (HZ2.out 10 (by decide) (by decide))).mono ?_; rintro e w' ⟨rfl, hw'⟩; subst hw')
    | (go_at_call 35; refine (apartTraps_none B _ (HZ2.out 11 (by decide) (by decide))).mono ?_; rintro e w' ⟨rfl, hw'⟩; subst hw')
    | (go_at_call 36; refine (apartRows_none B _ (HZ2.out 12 (by decide) (by decide))).mono ?_; rintro e w' ⟨rfl, hw'⟩; subst hw')
    | (go_at_call 37; refine (apartDefs_none B _ (HZ2.out 13 (by decide) (by decide))).mono ?_; rintro e w' ⟨rfl, hw'⟩; subst hw')
    | (go_at_call 38; refine (apartModules_none B _ (HZ2.out 14 (by decide) (by decide))).mono ?_; rintro e w' ⟨rfl, hw'⟩; subst hw')
    | (go_at_call 39; refine (apartFunctions_none B _ (HZ2.out 15 (by decide) (by decide))).mono ?_; rintro e w' ⟨rfl, hw'⟩; subst hw')
    | (go_at_call 40; refine (apartWaits_none B _ (HZ2.out 16 (by decide) (by decide))).mono ?_; rintro e w' ⟨rfl, hw'⟩; subst hw')
    | (go_at_call 41; refine (apartTrees_none B _ (HZ2.out 17 (by decide) (by decide))).mono ?_; rintro e w' ⟨rfl, hw'⟩; subst hw'))
  go_ret
  exact ⟨rfl, hQ⟩

end Go.Proofs.YtkcehgpcimlamaaGreatDoor.Tb
