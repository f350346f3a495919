/- Package coerce: a node and its kids as a tree. -/
import Derived.Test.YtkmoeflodafoeaaGreatDoorCcD
namespace Go.Proofs.YtkmoeflodafoeaaGreatDoor
open Go.RowKit Cc
set_option maxRecDepth 100000
set_option linter.unusedSimpArgs false
set_option linter.unusedVariables false
namespace Cc
def kv0 (b o : Nat) : C → Value
  | .ls _ _ a => tv b (o + 7) a
  | .tw _ _ _ a _ => tv b (o + 7) a
  | _ => .nilIface
def kv1 (b o : Nat) : C → Value
  | .tw _ _ _ a d => tv b (o + 7 + 7 * size a) d
  | _ => .nilIface
theorem nod_op (c : C) : (nod c).op = match c with | .any => 1 | .bs .. => 2 | .fl .. => 7 | .ls .. => 5 | .tw k .. => opK k := by cases c <;> rfl
end Cc
set_option maxHeartbeats 800000 in
theorem shaped_any (c : C) (b o : Nat) (w : World) (h : At1 w b o (nod c)) (hb : b < w.heap.size) :
    Calls Tryz.prog 169 #[.slice (some ⟨b, o, none⟩) (Cc.size c) (Cc.size c), .agg #[kv0 b o c, kv1 b o c]] w fun e w' => e = .returned (tv b o c) ∧ Below w.heap.size w w' := by
  obtain ⟨h0, -⟩ := h
  rw [nod_op] at h0
  have hA : ∀ o, Below w.heap.size w (w.alloc o) := fun o => (Below.refl _ _).alloc (Nat.le_refl _) _
  cases c with
  | any =>
    simp only [kv0, kv1, Cc.size, tv] at h0 ⊢
    go_enter Tryz.func169, Tryz.ntmps169
    go_wp2
    go_ret
    exact ⟨rfl, hA _⟩
  | bs p j g =>
    simp only [kv0, kv1, Cc.size, tv] at h0 ⊢
    go_enter Tryz.func169, Tryz.ntmps169
    go_wp2
    go_ret
    exact ⟨rfl, hA _⟩
  | fl p g l t =>
    simp only [kv0, kv1, Cc.size, tv] at h0 ⊢
    go_enter Tryz.func169, Tryz.ntmps169
    go_wp2
    go_ret
    exact ⟨rfl, hA _⟩
  | ls p j a =>
    simp only [kv0, kv1, Cc.size, tv] at h0 ⊢
    obtain ⟨Ta, va, ea, -⟩ := tv_meth a b (o + 7)
    simp only [ea]
    have hz : 0 < Cc.size a + 1 := by omega
    go_enter Tryz.func169, Tryz.ntmps169
    go_wp2
    go_ret
    exact ⟨rfl, hA _⟩
  | tw k p j a d =>
    obtain ⟨Ta, va, ea, -⟩ := tv_meth a b (o + 7)
    obtain ⟨Td, vd, ed, -⟩ := tv_meth d b (o + 7 + 7 * Cc.size a)
    have hz : 0 < Cc.size a + Cc.size d + 1 := by omega
    cases k
    all_goals
      simp only [kv0, kv1, Cc.size, tv, ea, ed, tyK, opK] at h0 ⊢
      go_enter Tryz.func169, Tryz.ntmps169
      go_wp2
      go_ret
      exact ⟨rfl, hA _⟩
end Go.Proofs.YtkmoeflodafoeaaGreatDoor
