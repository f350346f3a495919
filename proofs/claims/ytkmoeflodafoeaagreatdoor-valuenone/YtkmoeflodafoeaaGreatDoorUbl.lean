/- Package coerce: two nodes held against each other. Package coerce: which node may stand; a node and its kids as a tree. Package coerce: a node and its kids as a tree. -/
import Derived.Test.YtkmoeflodafoeaaGreatDoorUbj
namespace Go.Proofs.YtkmoeflodafoeaaGreatDoor
open Go.RowKit Cc
set_option maxRecDepth 100000
set_option linter.unusedSimpArgs false
set_option linter.unusedVariables false
set_option maxHeartbeats 800000 in
theorem eqCo (a0 a1 : Int) (a2 : Bool) (a3 a4 a5 a6 : Int) (b0 b1 : Int) (b2 : Bool) (b3 b4 b5 b6 : Int) (w : World) :
    (binOp .eql 29 (.agg #[.int .i8 a0, .int .i64 a1, .bool a2, .int .u8 a3, .int .i64 a4, .int .u8 a5, .int .u8 a6]) (.agg #[.int .i8 b0, .int .i64 b1, .bool b2, .int .u8 b3, .int .i64 b4, .int .u8 b5, .int .u8 b6])).run Tryz.prog w =
      .ok (.bool (decide ((⟨a0, a1, a2, a3, a4, a5, a6⟩ : N) = ⟨b0, b1, b2, b3, b4, b5, b6⟩))) w := by
  by_cases h0 : a0 = b0
  · by_cases h1 : a1 = b1
    · by_cases h2 : a2 = b2
      · by_cases h3 : a3 = b3
        · by_cases h4 : a4 = b4
          · by_cases h5 : a5 = b5
            · by_cases h6 : a6 = b6 <;> go_simp
            · go_simp
          · go_simp
        · go_simp
      · go_simp
    · go_simp
  · go_simp
end Go.Proofs.YtkmoeflodafoeaaGreatDoor
namespace Go.Proofs.YtkmoeflodafoeaaGreatDoor
open Go.RowKit Cc
set_option maxRecDepth 100000
set_option linter.unusedSimpArgs false
set_option linter.unusedVariables false
theorem cls_op1 {x : N} (h0 : ¬ (x.proj ≠ 0 ∧ isLab x.proj = false)) (h : x.op = 1) : (cls x).isSome = decide (x = ⟨1, 0, false, 0, 0, 0, 0⟩) := by
  unfold cls; rw [if_neg h0, if_pos h]; split <;> simp_all
theorem cls_bad {x : N} (h0 : x.proj ≠ 0 ∧ isLab x.proj = false) : (cls x).isSome = false := by
  unfold cls; rw [if_pos h0]; rfl
theorem cls_op7 {x : N} (h0 : ¬ (x.proj ≠ 0 ∧ isLab x.proj = false)) (h : x.op = 7) : (cls x).isSome = (!x.inj && isLab x.label && (hOf x.head).isSome && (x.frm == x.head) && (hOf x.tto).isSome && (x.tto != x.head)) := by
  unfold cls; rw [if_neg h0, if_neg (by omega), if_pos h]
  cases hOf x.head <;> cases hOf x.tto <;> simp
  split <;> simp_all
theorem cls_op {x : N} (h0 : ¬ (x.proj ≠ 0 ∧ isLab x.proj = false)) (h1 : x.op ≠ 1) (h7 : x.op ≠ 7) : (cls x).isSome = ((hOf x.head).isSome && (decide (x.op = opB x.head) && decide (x.label = 0) && decide (x.frm = 0) && decide (x.tto = 0))) := by
  unfold cls opB; rw [if_neg h0, if_neg h1, if_neg h7]
  cases hOf x.head <;> simp
  split <;> simp_all
theorem isSome_bool {α : Type} {o : Option α} {b : Bool} (h : o.isSome = b) {w w' : World} {B : Nat} (hB : Below B w w') : Ending.returned (.bool b) = .returned (.bool o.isSome) ∧ Below B w w' := ⟨by rw [h], hB⟩
set_option maxHeartbeats 1600000 in
theorem stands_any (x : N) (w : World) :
    Calls Tryz.prog 167 #[.agg #[.int .i8 x.op, .int .i64 x.proj, .bool x.inj, .int .u8 x.head, .int .i64 x.label, .int .u8 x.frm, .int .u8 x.tto]] w fun e w' => e = .returned (.bool (cls x).isSome) ∧ Below w.heap.size w w' := by
  have cl := isLabel_any
  have ch := isHead_any
  have co := opOf_any
  have hA : ∀ o, Below w.heap.size w (w.alloc o) := fun o => (Below.refl _ _).alloc (Nat.le_refl _) _
  have hD : ∀ o n, Below w.heap.size w ((w.alloc o).drewN n) := fun o n => ⟨(hA o).os, (hA o).tape, (hA o).output, (hA o).size, (hA o).block⟩
  by_cases h0 : x.proj ≠ 0 ∧ isLab x.proj = false
  · have HC : Aside ((cls x).isSome = false) := cls_bad h0
    obtain ⟨h1, h2⟩ := h0
    have c1 : ∀ W, Calls Tryz.prog 60 #[.int .i64 x.proj] W fun e w' => e = .returned (.bool false) ∧ w' = W := fun W => by rw [← h2]; exact cl _ _
    clear cl h2
    go_enter Tryz.func167, Tryz.ntmps167
    go_wp2_with (go_at_call 60; refine (c1 _).mono ?_; rintro e w' ⟨rfl, rfl⟩)
    go_ret
    exact isSome_bool HC.out (hA _)
  · have c1 : x.proj ≠ 0 → ∀ W, Calls Tryz.prog 60 #[.int .i64 x.proj] W fun e w' => e = .returned (.bool true) ∧ w' = W := by
      intro hp W
      have : isLab x.proj = true := by
        cases h : isLab x.proj
        · exact absurd ⟨hp, h⟩ h0
        · rfl
      rw [← this]
      exact cl _ _
    by_cases h1 : x.op = 1
    · have HC : Aside ((cls x).isSome = _) := cls_op1 h0 h1
      clear h0
      obtain ⟨xo, xp, xj, xh, xl, xf, xt⟩ := x
      simp only at *
      subst h1
      by_cases hp : xp = 0
      · clear c1
        go_enter Tryz.func167, Tryz.ntmps167
        go_wp2
        all_goals
          go_ret
          exact isSome_bool (HC.out.trans (by simp_all)) (hA _)
      · have c2 := c1 hp
        clear c1
        go_enter Tryz.func167, Tryz.ntmps167
        go_wp2_with (go_at_call 60; refine (c2 _).mono ?_; rintro e w' ⟨rfl, rfl⟩; clear c2)
        all_goals
          go_ret
          exact isSome_bool (HC.out.trans (by simp_all)) (hA _)
    by_cases h7 : x.op = 7
    · have HC : Aside ((cls x).isSome = _) := cls_op7 h0 h7
      clear h0
      obtain ⟨xo, xp, xj, xh, xl, xf, xt⟩ := x
      simp only at *
      subst h7
      by_cases hp : xp = 0
      · clear c1
        go_enter Tryz.func167, Tryz.ntmps167
        go_wp2_with (first | (go_at_call 60; refine (cl _ _).mono ?_; rintro e w' ⟨rfl, rfl⟩) | (go_at_call 191; refine (ch _ _).mono ?_; rintro e w' ⟨rfl, rfl⟩))
        all_goals
          go_ret
          exact isSome_bool (HC.out.trans (by simp_all)) (hA _)
      · have c2 := c1 hp
        clear c1
        go_enter Tryz.func167, Tryz.ntmps167
        go_wp2_with (first | (go_at_call 60; refine (c2 _).mono ?_; rintro e w' ⟨rfl, rfl⟩; clear c2) | (go_at_call 60; refine (cl _ _).mono ?_; rintro e w' ⟨rfl, rfl⟩) | (go_at_call 191; refine (ch _ _).mono ?_; rintro e w' ⟨rfl, rfl⟩))
        all_goals
          go_ret
          exact isSome_bool (HC.out.trans (by simp_all)) (hA _)
    · have HC : Aside ((cls x).isSome = _) := cls_op h0 h1 h7
      clear h0
      obtain ⟨xo, xp, xj, xh, xl, xf, xt⟩ := x
      simp only at *
      have hlab : ∀ W, xp ≠ 0 → Calls Tryz.prog 60 #[.int .i64 xp] W fun e w' => e = .returned (.bool true) ∧ w' = W := fun W h => c1 h W
      clear c1
      cases hs : (hOf xh).isSome
      · have ch' : ∀ W, Calls Tryz.prog 191 #[.int .u8 xh] W fun e w' => e = .returned (.bool false) ∧ w' = W := fun W => by rw [← hs]; exact ch _ _
        have HS : Aside ((hOf xh).isSome = false) := hs
        clear hs ch co
        by_cases hp : xp = 0
        all_goals
          go_enter Tryz.func167, Tryz.ntmps167
          go_wp2_with (go_at_call 60; refine (hlab _ hp).mono ?_; rintro e w' ⟨rfl, rfl⟩)
          go_quiet ((first | (go_at_call 191; exact Calls.quiet_of_same (ch' _)) | (go_at_call 127; exact Calls.quiet_of_same (co' _))))
          go_wp2
          go_ret
          exact isSome_bool (HC.out.trans (by simp [HS.out])) (hD _ _)
      · have ch' : ∀ W, Calls Tryz.prog 191 #[.int .u8 xh] W fun e w' => e = .returned (.bool true) ∧ w' = W := fun W => by rw [← hs]; exact ch _ _
        have HS : Aside ((hOf xh).isSome = true) := hs
        have co' : ∀ W, Calls Tryz.prog 127 #[.int .u8 xh] W fun e w' => e = .returned (.int .i8 (opB xh)) ∧ w' = W := fun W => co _ _
        clear hs ch co
        generalize opB xh = ob at *
        have eq := eqCo
        by_cases hp : xp = 0
        all_goals
          go_enter Tryz.func167, Tryz.ntmps167
          go_wp2_with (go_at_call 60; refine (hlab _ hp).mono ?_; rintro e w' ⟨rfl, rfl⟩)
          go_quiet ((first | (go_at_call 191; exact Calls.quiet_of_same (ch' _)) | (go_at_call 127; exact Calls.quiet_of_same (co' _))))
          go_wp2
          go_ret
          exact isSome_bool (HC.out.trans (by simp [HS.out, Bool.and_assoc])) (hD _ _)
end Go.Proofs.YtkmoeflodafoeaaGreatDoor
namespace Go.Proofs.YtkmoeflodafoeaaGreatDoor
open Go.RowKit Cc
set_option maxRecDepth 100000
set_option linter.unusedSimpArgs false
set_option linter.unusedVariables false
namespace Cc
def kv0 (b o : Nat) : C → Value
  | .ls _ _ a => tv b (o + 7) a
  | .tw _ _ _ a _ => tv b (o + 7) a
  | _ => .nilIface
def kv1 (b o : Nat) : C → Value
  | .tw _ _ _ a d => tv b (o + 7 + 7 * size a) d
  | _ => .nilIface
theorem nod_op (c : C) : (nod c).op = match c with | .any => 1 | .bs .. => 2 | .fl .. => 7 | .ls .. => 5 | .tw k .. => opK k := by cases c <;> rfl
end Cc
set_option maxHeartbeats 800000 in
theorem shaped_any (c : C) (b o : Nat) (w : World) (h : At1 w b o (nod c)) (hb : b < w.heap.size) :
    Calls Tryz.prog 169 #[.slice (some ⟨b, o, none⟩) (Cc.size c) (Cc.size c), .agg #[kv0 b o c, kv1 b o c]] w fun e w' => e = .returned (tv b o c) ∧ Below w.heap.size w w' := by
  obtain ⟨h0, -⟩ := h
  rw [nod_op] at h0
  have hA : ∀ o, Below w.heap.size w (w.alloc o) := fun o => (Below.refl _ _).alloc (Nat.le_refl _) _
  cases c with
  | any =>
    simp only [kv0, kv1, Cc.size, tv] at h0 ⊢
    go_enter Tryz.func169, Tryz.ntmps169
    go_wp2
    go_ret
    exact ⟨rfl, hA _⟩
  | bs p j g =>
    simp only [kv0, kv1, Cc.size, tv] at h0 ⊢
    go_enter Tryz.func169, Tryz.ntmps169
    go_wp2
    go_ret
    exact ⟨rfl, hA _⟩
  | fl p g l t =>
    simp only [kv0, kv1, Cc.size, tv] at h0 ⊢
    go_enter Tryz.func169, Tryz.ntmps169
    go_wp2
    go_ret
    exact ⟨rfl, hA _⟩
  | ls p j a =>
    simp only [kv0, kv1, Cc.size, tv] at h0 ⊢
    obtain ⟨Ta, va, ea, -⟩ := tv_meth a b (o + 7)
    simp only [ea]
    have hz : 0 < Cc.size a + 1 := by omega
    go_enter Tryz.func169, Tryz.ntmps169
    go_wp2
    go_ret
    exact ⟨rfl, hA _⟩
  | tw k p j a d =>
    obtain ⟨Ta, va, ea, -⟩ := tv_meth a b (o + 7)
    obtain ⟨Td, vd, ed, -⟩ := tv_meth d b (o + 7 + 7 * Cc.size a)
    have hz : 0 < Cc.size a + Cc.size d + 1 := by omega
    cases k
    all_goals
      simp only [kv0, kv1, Cc.size, tv, ea, ed, tyK, opK] at h0 ⊢
      go_enter Tryz.func169, Tryz.ntmps169
      go_wp2
      go_ret
      exact ⟨rfl, hA _⟩
end Go.Proofs.YtkmoeflodafoeaaGreatDoor
