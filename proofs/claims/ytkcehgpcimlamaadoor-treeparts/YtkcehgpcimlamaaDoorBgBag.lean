/- The bag: all but the lists of texts are empty. -/
import Derived.Test.YtkcehgpcimlamaaDoorBgBagA
import Derived.Test.YtkcehgpcimlamaaDoorBgBagB
import Derived.Test.YtkcehgpcimlamaaDoorBgBagC
namespace Go.Proofs.YtkcehgpcimlamaaDoor.Bg
open Go.RowKit

/-- All lists of the bag but those of texts are empty. -/
def Bare (w : World) (B : Nat) : Prop := ∀ k, k < 18 → k ≠ 1 → w.cell? ⟨B, k, none⟩ = some (.slice none 0 0)

set_option maxRecDepth 100000 in
set_option maxHeartbeats 4000000 in
theorem apart_of (B : Nat) (Q : World → Prop) (w : World) (hz : Bare w B) (hT : Calls Tryd.prog 49 #[.pointer (some ⟨B, 0, none⟩)] w fun e w' => e = .returned (.bool true) ∧ Bare w' B ∧ Q w') :
    Calls Tryd.prog 28 #[.pointer (some ⟨B, 0, none⟩)] w fun e w' => e = .returned (.bool true) ∧ Q w' := by
  have HZ : Aside (Bare w B) := hz
  clear hz
  go_enter Tryd.func28, Tryd.ntmps28
  go_wp2_with (first
    | (go_at_call 48; refine (apartBytes_none B _ (HZ.out 0 (by decide) (by decide))).mono ?_; rintro e w' ⟨rfl, hw'⟩; subst hw')
    | (go_at_call 49; refine hT.mono ?_; rintro e w2 ⟨rfl, hz2, hQ⟩; clear hT HZ; have HZ2 : Aside (Bare w2 B) := hz2; clear hz2)
    | (go_at_call 50; refine (apartLongs_none B _ (HZ2.out 2 (by decide) (by decide))).mono ?_; rintro e w' ⟨rfl, hw'⟩; subst hw')
    | (go_at_call 51; refine (apartBools_none B _ (HZ2.out 3 (by decide) (by decide))).mono ?_; rintro e w' ⟨rfl, hw'⟩; subst hw')
    | (go_at_call 52; refine (apartTexts_none B _ (HZ2.out 4 (by decide) (by decide))).mono ?_; rintro e w' ⟨rfl, hw'⟩; subst hw')
    | (go_at_call 53; refine (apartNodes_none B _ (HZ2.out 5 (by decide) (by decide))).mono ?_; rintro e w' ⟨rfl, hw'⟩; subst hw')
    | (go_at_call 54; refine (apartCos_none B _ (HZ2.out 6 (by decide) (by decide))).mono ?_; rintro e w' ⟨rfl, hw'⟩; subst hw')
    | (go_at_call 55; refine (apartSeen_none B _ (HZ2.out 7 (by decide) (by decide))).mono ?_; rintro e w' ⟨rfl, hw'⟩; subst hw')
    | (go_at_call 56; refine (apartSites_none B _ (HZ2.out 8 (by decide) (by decide))).mono ?_; rintro e w' ⟨rfl, hw'⟩; subst hw')
    | (go_at_call 57; refine (apartIns_none B _ (HZ2.out 9 (by decide) (by decide))).mono ?_; rintro e w' ⟨rfl, hw'⟩; subst hw')
    | (go_at_call 58; refine (apartImports_none B _ (HZ2.out 10 (by decide) (by decide))).mono ?_; rintro e w' ⟨rfl, hw'⟩; subst hw')
    | (go_at_call 59; refine (apartTraps_none B _ (HZ2.out 11 (by decide) (by decide))).mono ?_; rintro e w' ⟨rfl, hw'⟩; subst hw')
    | (go_at_call 60; refine (apartRows_none B _ (HZ2.out 12 (by decide) (by decide))).mono ?_; rintro e w' ⟨rfl, hw'⟩; subst hw')
    | (go_at_call 61; refine (apartDefs_none B _ (HZ2.out 13 (by decide) (by decide))).mono ?_; rintro e w' ⟨rfl, hw'⟩; subst hw')
    | (go_at_call 62; refine (apartModules_none B _ (HZ2.out 14 (by decide) (by decide))).mono ?_; rintro e w' ⟨rfl, hw'⟩; subst hw')
    | (go_at_call 63; refine (apartFunctions_none B _ (HZ2.out 15 (by decide) (by decide))).mono ?_; rintro e w' ⟨rfl, hw'⟩; subst hw')
    | (go_at_call 64; refine (apartWaits_none B _ (HZ2.out 16 (by decide) (by decide))).mono ?_; rintro e w' ⟨rfl, hw'⟩; subst hw')
    | (go_at_call 65; refine (apartTrees_none B _ (HZ2.out 17 (by decide) (by decide))).mono ?_; rintro e w' ⟨rfl, hw'⟩; subst hw'))
  go_ret
  exact ⟨rfl, hQ⟩

end Go.Proofs.YtkcehgpcimlamaaDoor.Bg
