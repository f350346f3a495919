/- Package coerce: which node may stand; what a tree that begins or ends in ? must hold. -/
import Derived.Test.YtkmoeflodafoeaaGreatDoorUbj
namespace Go.Proofs.YtkmoeflodafoeaaGreatDoor
open Go.RowKit Cc
set_option maxRecDepth 100000
set_option linter.unusedSimpArgs false
set_option linter.unusedVariables false
theorem root_at (c : C) (b o : Nat) (w : World) (h : Lie w b o c) (W : World) (hW : Below w.heap.size w W) :
    Calls Tryz.prog 249 #[.slice (some ⟨b, o, none⟩) (Cc.size c) (Cc.size c)] W fun e w' => e = .returned (.agg #[.int .i8 (nod c).op, .int .i64 (nod c).proj, .bool (nod c).inj, .int .u8 (nod c).head, .int .i64 (nod c).label, .int .u8 (nod c).frm, .int .u8 (nod c).tto]) ∧ Below w.heap.size w w' ∧ Below W.heap.size W w' := by
  have h' := h.below hW
  refine (root_any b o _ _ (nod c) W h'.at1 h'.2 (by have := size_pos c; omega)).mono ?_
  rintro e w' ⟨rfl, hB⟩
  exact ⟨rfl, hW.trans (hB.mono hW.size), hB⟩
theorem reaches_at (c : C) (b o : Nat) (w : World) (h : Lie w b o c) (f t : Bool) (W : World) (hW : Below w.heap.size w W) :
    Calls Tryz.prog 192 #[tv b o c, .bool f, .bool t] W fun e w' => e = .returned (.bool (reach c f t)) ∧ Below w.heap.size w w' ∧ Below W.heap.size W w' := by
  refine (reaches_any c b o f t W (h.below hW)).mono ?_
  rintro e w' ⟨rfl, hB⟩
  exact ⟨rfl, hW.trans (hB.mono hW.size), hB⟩
theorem begins_at (c : C) (b o : Nat) (w : World) (h : Lie w b o c) (W : World) (hW : Below w.heap.size w W) :
    Calls Tryz.prog 130 #[tv b o c] W fun e w' => e = .returned (.bool (beg c)) ∧ Below w.heap.size w w' ∧ Below W.heap.size W w' := by
  refine (begins_any c b o W (h.below hW)).mono ?_
  rintro e w' ⟨rfl, hB⟩
  exact ⟨rfl, hW.trans (hB.mono hW.size), hB⟩
theorem ends_at (c : C) (b o : Nat) (w : World) (h : Lie w b o c) (W : World) (hW : Below w.heap.size w W) :
    Calls Tryz.prog 129 #[tv b o c] W fun e w' => e = .returned (.bool (fin c)) ∧ Below w.heap.size w w' ∧ Below W.heap.size W w' := by
  refine (ends_any c b o W (h.below hW)).mono ?_
  rintro e w' ⟨rfl, hB⟩
  exact ⟨rfl, hW.trans (hB.mono hW.size), hB⟩
theorem bcl {W w1 : World} (hb : Below W.heap.size W w1) : (∀ b o, b < W.heap.size → w1.cell? ⟨b, o, none⟩ = W.cell? ⟨b, o, none⟩) ∧ (∀ b o, b < W.heap.size → w1.frozen? ⟨b, o, none⟩ = W.frozen? ⟨b, o, none⟩) :=
  ⟨fun b o h => hb.cell (p := ⟨b, o, none⟩) h, fun b o h => hb.frozen (p := ⟨b, o, none⟩) h⟩
theorem below_al {B : Nat} {w w1 : World} (h : Below B w w1) (hB : B ≤ w1.heap.size) (o : Obj) : Below B w (w1.alloc o) := h.alloc hB o

set_option maxHeartbeats 800000 in
theorem grounded_any (c : C) (b o : Nat) (w : World) (h : Lie w b o c) :
    Calls Tryz.prog 170 #[tv b o c] w fun e w' => e = .returned (.bool (grB c)) ∧ Below w.heap.size w w' := by
  have hr := root_at c b o w h
  have hB := Below.refl w.heap.size w
  have f1 := fld1
  have f2 := fld2
  rw [nod_proj, nod_inj] at hr
  cases c with
  | any =>
    have q1 := ta_unknown_function
    have q2 := ta_unknown_pair
    have q3 := ta_unknown_list
    have q4 := ta_unknown_box
    obtain ⟨T, v, e, hm, -⟩ := tv_meth .any b o
    rw [tv] at e ⊢
    injection e with e1 e2
    subst e1 e2
    clear h
    go_enter Tryz.func170, Tryz.ntmps170
    go_wp2_with (go_at_call 249; refine (hr _ hB).mono ?_; rintro e w' ⟨rfl, hB, -⟩)
    go_ret
    exact ⟨rfl, hB⟩
  | bs p j g =>
    have q1 := ta_base_function
    have q2 := ta_base_pair
    have q3 := ta_base_list
    have q4 := ta_base_box
    obtain ⟨T, v, e, hm, -⟩ := tv_meth (.bs p j g) b o
    rw [tv] at e ⊢
    injection e with e1 e2
    subst e1 e2
    clear h
    go_enter Tryz.func170, Tryz.ntmps170
    go_wp2_with (go_at_call 249; refine (hr _ hB).mono ?_; rintro e w' ⟨rfl, hB, -⟩)
    go_ret
    exact ⟨rfl, hB⟩
  | fl p g l t =>
    have q1 := ta_failure_function
    have q2 := ta_failure_pair
    have q3 := ta_failure_list
    have q4 := ta_failure_box
    obtain ⟨T, v, e, hm, -⟩ := tv_meth (.fl p g l t) b o
    rw [tv] at e ⊢
    injection e with e1 e2
    subst e1 e2
    clear h
    go_enter Tryz.func170, Tryz.ntmps170
    go_wp2_with (go_at_call 249; refine (hr _ hB).mono ?_; rintro e w' ⟨rfl, hB, -⟩)
    go_ret
    exact ⟨rfl, hB⟩
  | ls p j a =>
    have q1 := ta_list_function
    have q2 := ta_list_pair
    have q3 := ta_list_list
    have ha := reaches_at a b (o + 7) w h.ls
    obtain ⟨T, v, e, hm, -⟩ := tv_meth (.ls p j a) b o
    rw [tv] at e ⊢
    injection e with e1 e2
    subst e1 e2
    rw [grB]
    generalize reach a = ra at *
    obtain ⟨Ta, va, ea, -⟩ := tv_meth a b (o + 7)
    simp only [ea] at hm ha ⊢
    clear ea
    clear h
    go_enter Tryz.func170, Tryz.ntmps170
    go_wp2_with (first | (go_at_call 249; refine (hr _ hB).mono ?_; rintro e w' ⟨rfl, hB, -⟩) | (go_at_call 192; refine (ha _ _ _ (below_al hB hB.size _)).mono ?_; rintro e w' ⟨rfl, hB, -⟩))
    go_ret
    exact ⟨rfl, hB⟩
  | tw k p j a d =>
    have ha := reaches_at a b (o + 7) w h.tw.1
    have hd := reaches_at d b (o + 7 + 7 * Cc.size a) w h.tw.2
    obtain ⟨T, v, e, hm, -⟩ := tv_meth (.tw k p j a d) b o
    rw [tv] at e ⊢
    injection e with e1 e2
    subst e1 e2
    rw [grB]
    generalize reach a = ra at *
    generalize reach d = rd at *
    obtain ⟨Ta, va, ea, -⟩ := tv_meth a b (o + 7)
    simp only [ea] at hm ha ⊢
    clear ea
    obtain ⟨Td, vd, ed, -⟩ := tv_meth d b (o + 7 + 7 * Cc.size a)
    simp only [ed] at hm hd ⊢
    clear ed
    clear h
    cases k <;> simp only [tyK, t0, t1, if_true, if_false, Bool.false_eq_true] at hm ⊢
    · have q1 := ta_function_function
      cases hx : ra j (p != 0)
      all_goals
        have HX : Aside (ra j (p != 0) = _) := hx
        have ha' := ha j (p != 0)
        rw [hx] at ha'
        clear hx ha
        go_enter Tryz.func170, Tryz.ntmps170
        go_wp2_with (first | (go_at_call 249; refine (hr _ hB).mono ?_; rintro e w' ⟨rfl, hB, -⟩) | (go_at_call 192; refine (ha' _ (below_al hB hB.size _)).mono ?_; rintro e w' ⟨rfl, hB, hB2⟩; clear ha'; obtain ⟨hc, hf⟩ := bcl hB2) | (go_at_call 192; refine (hd _ _ _ hB).mono ?_; rintro e w' ⟨rfl, hB, -⟩))
        go_ret
        exact ⟨ret_b (by simp [HX.out, proj, inj]), hB⟩
    · have q1 := ta_pair_function
      have q2 := ta_pair_pair
      cases hx : ra (p != 0) j
      all_goals
        have HX : Aside (ra (p != 0) j = _) := hx
        have ha' := ha (p != 0) j
        rw [hx] at ha'
        clear hx ha
        go_enter Tryz.func170, Tryz.ntmps170
        go_wp2_with (first | (go_at_call 249; refine (hr _ hB).mono ?_; rintro e w' ⟨rfl, hB, -⟩) | (go_at_call 192; refine (ha' _ (below_al hB hB.size _)).mono ?_; rintro e w' ⟨rfl, hB, hB2⟩; clear ha'; obtain ⟨hc, hf⟩ := bcl hB2) | (go_at_call 192; refine (hd _ _ _ hB).mono ?_; rintro e w' ⟨rfl, hB, -⟩))
        go_ret
        exact ⟨ret_b (by simp [HX.out, proj, inj]), hB⟩
    · have q1 := ta_box_function
      have q2 := ta_box_pair
      have q3 := ta_box_list
      have q4 := ta_box_box
      cases hx : ra (p != 0) j
      all_goals
        have HX : Aside (ra (p != 0) j = _) := hx
        have ha' := ha (p != 0) j
        rw [hx] at ha'
        clear hx ha
        go_enter Tryz.func170, Tryz.ntmps170
        go_wp2_with (first | (go_at_call 249; refine (hr _ hB).mono ?_; rintro e w' ⟨rfl, hB, -⟩) | (go_at_call 192; refine (ha' _ (below_al hB hB.size _)).mono ?_; rintro e w' ⟨rfl, hB, hB2⟩; clear ha'; obtain ⟨hc, hf⟩ := bcl hB2) | (go_at_call 192; refine (hd _ _ _ hB).mono ?_; rintro e w' ⟨rfl, hB, -⟩))
        go_ret
        exact ⟨ret_b (by simp [HX.out, proj, inj]), hB⟩
end Go.Proofs.YtkmoeflodafoeaaGreatDoor
