/- Which nodes may be: what the document's May answers. -/
import Derived.Test.YtpikfdkgblghhaaGreatDoorXbj
import Derived.Test.YtpikfdkgblghhaaGreatDoorXbk
namespace Go.Proofs.YtpikfdkgblghhaaGreatDoor
open Go.RowKit
set_option maxRecDepth 100000
theorem rmay_any (x : Tr.Nd) (hs : x.s.size ≤ maxLen) (w : World) :
    Calls Tryz.prog 57 #[Tr.agg x] w fun e w' => e = .returned (.bool (Tr.mayB x)) ∧ Below w.heap.size w w' := by
  obtain ⟨kind, kids, n, s, t, u, ln, co⟩ := x
  by_cases h1 : kind = 1
  · subst h1; exact rm_num kids n s t u ln co hs w
  by_cases h2 : kind = 2
  · subst h2; exact rm_str kids n s t u ln co hs w
  by_cases h3 : kind = 3
  · subst h3; exact rm_truth kids n s t u ln co hs w
  by_cases h4 : kind = 4
  · subst h4; exact rm_var kids n s t u ln co hs w
  by_cases h5 : kind = 5
  · subst h5; exact rm_fn kids n s t u ln co hs w
  by_cases h6 : kind = 6
  · subst h6; exact rm_rec kids n s t u ln co hs w
  by_cases h8 : kind = 8
  · subst h8; exact rm_let kids n s t u ln co hs w
  by_cases h29 : kind = 29
  · subst h29; exact rm_as kids n s t u ln co hs w
  by_cases h30 : kind = 30
  · subst h30; exact rm_cast kids n s t u ln co hs w
  by_cases h21 : kind = 21
  · subst h21; exact rm_list kids n s t u ln co hs w
  exact rm_other kind h1 h2 h3 h4 h5 h6 h8 h29 h30 h21 kids n s t u ln co hs w

end Go.Proofs.YtpikfdkgblghhaaGreatDoor
