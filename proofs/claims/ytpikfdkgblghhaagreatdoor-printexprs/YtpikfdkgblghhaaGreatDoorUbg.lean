/- The document's Pieces, kind by kind: what is fixed. -/
import Derived.Test.YtpikfdkgblghhaaGreatDoorUbf
import Derived.Test.YtpikfdkgblghhaaGreatDoorUau
import Derived.Test.YtpikfdkgblghhaaGreatDoorUbe
import Derived.Test.YtpikfdkgblghhaaGreatDoorUao
import Derived.BigQuiet
namespace Go.Proofs.YtpikfdkgblghhaaGreatDoor
open Go.RowKit Pn
set_option maxRecDepth 100000
set_option linter.unusedSimpArgs false
set_option linter.unusedVariables false

set_option maxHeartbeats 4000000 in
theorem refPieces_ops (x : Tr.Nd) (h : x.kind = 4 ∨ x.kind = 28 ∨ x.kind = 14 ∨ x.kind = 15 ∨ x.kind = 10 ∨ x.kind = 11 ∨ x.kind = 13 ∨ x.kind = 12) (w : World) : Calls Tryz.prog 61 #[Tr.agg x] w (PcEnd x w) := by
  have HA : Aside (pcA Lib.itoa x = pcA Lib.itoa ⟨x.kind, x.kids, x.n, x.s, x.t, x.u, x.ln, x.co⟩) := rfl
  obtain ⟨kind, kids, n, s, t, u, ln, co⟩ := x
  simp only at h
  simp only [Tr.agg]
  rcases h with rfl | rfl | rfl | rfl | rfl | rfl | rfl | rfl
  all_goals
    go_enter Tryz.func61, Tryz.ntmps61
    go_wp2_with fail
    go_ret3
    exact pc_end rfl (by simp [pcA]; rfl) (by simp [pcB]; rfl) (by simp [pcC]; rfl) ((Below.refl _ _).alloc (Nat.le_refl _) _)

set_option maxHeartbeats 4000000 in
theorem refPieces_brs (x : Tr.Nd) (h : x.kind = 16 ∨ x.kind = 27 ∨ x.kind = 7 ∨ x.kind = 18 ∨ x.kind = 21) (w : World) : Calls Tryz.prog 61 #[Tr.agg x] w (PcEnd x w) := by
  have HA : Aside (pcA Lib.itoa x = pcA Lib.itoa ⟨x.kind, x.kids, x.n, x.s, x.t, x.u, x.ln, x.co⟩) := rfl
  obtain ⟨kind, kids, n, s, t, u, ln, co⟩ := x
  simp only at h
  simp only [Tr.agg]
  rcases h with rfl | rfl | rfl | rfl | rfl
  all_goals
    go_enter Tryz.func61, Tryz.ntmps61
    go_wp2_with fail
    go_ret3
    exact pc_end rfl (by simp [pcA]; rfl) (by simp [pcB]; rfl) (by simp [pcC]; rfl) ((Below.refl _ _).alloc (Nat.le_refl _) _)

set_option maxHeartbeats 4000000 in
theorem refPieces_wds (x : Tr.Nd) (h : x.kind = 26 ∨ x.kind = 17 ∨ x.kind = 19 ∨ x.kind = 20 ∨ x.kind = 22 ∨ x.kind = 23 ∨ x.kind = 24 ∨ x.kind = 25) (w : World) : Calls Tryz.prog 61 #[Tr.agg x] w (PcEnd x w) := by
  have HA : Aside (pcA Lib.itoa x = pcA Lib.itoa ⟨x.kind, x.kids, x.n, x.s, x.t, x.u, x.ln, x.co⟩) := rfl
  obtain ⟨kind, kids, n, s, t, u, ln, co⟩ := x
  simp only at h
  simp only [Tr.agg]
  rcases h with rfl | rfl | rfl | rfl | rfl | rfl | rfl | rfl
  all_goals
    go_enter Tryz.func61, Tryz.ntmps61
    go_wp2_with fail
    go_ret3
    exact pc_end rfl (by simp [pcA]; rfl) (by simp [pcB]; rfl) (by simp [pcC]; rfl) ((Below.refl _ _).alloc (Nat.le_refl _) _)
end Go.Proofs.YtpikfdkgblghhaaGreatDoor
