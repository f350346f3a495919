/- The document's coercions: may a node be? -/
import Derived.Test.YtaaokecdmbmgbaaGreatDoorUaz
import Derived.Test.YtaaokecdmbmgbaaGreatDoorUah
namespace Go.Proofs.YtaaokecdmbmgbaaGreatDoor
open Go.RowKit Cc
set_option maxRecDepth 100000
set_option linter.unusedSimpArgs false
set_option linter.unusedVariables false
set_option maxHeartbeats 800000 in
theorem dgood_1 (x : N) (w : World) (h1 : x.op = 1) :
    Calls Tryz.prog 60 #[.agg #[.int .i8 x.op, .int .i64 x.proj, .bool x.inj, .int .u8 x.head, .int .i64 x.label, .int .u8 x.frm, .int .u8 x.tto]] w fun e w' => e = .returned (.bool (cls x).isSome) ∧ Below w.heap.size w w' := by
  have cl := dlabel_any
  have ch := dhead_any
  have co := dopOf_any
  have hA : ∀ o, Below w.heap.size w (w.alloc o) := fun o => (Below.refl _ _).alloc (Nat.le_refl _) _
  have hD : ∀ o n, Below w.heap.size w ((w.alloc o).drewN n) := fun o n => ⟨(hA o).os, (hA o).tape, (hA o).output, (hA o).size, (hA o).block⟩
  have HC : Aside ((cls x).isSome = _) := dcls_1 h1
  obtain ⟨xo, xp, xj, xh, xl, xf, xt⟩ := x
  simp only at *
  subst h1
  go_enter Tryz.func60, Tryz.ntmps60
  go_wp2
  all_goals
    go_ret
    exact isSome_bool (HC.out.trans (by simp_all)) (hA _)
set_option maxHeartbeats 800000 in
theorem dgood_h (x : N) (w : World) (h1 : x.op ≠ 1) (h0 : (hOf x.head).isSome = false) :
    Calls Tryz.prog 60 #[.agg #[.int .i8 x.op, .int .i64 x.proj, .bool x.inj, .int .u8 x.head, .int .i64 x.label, .int .u8 x.frm, .int .u8 x.tto]] w fun e w' => e = .returned (.bool (cls x).isSome) ∧ Below w.heap.size w w' := by
  have cl := dlabel_any
  have ch := dhead_any
  have co := dopOf_any
  have hA : ∀ o, Below w.heap.size w (w.alloc o) := fun o => (Below.refl _ _).alloc (Nat.le_refl _) _
  have hD : ∀ o n, Below w.heap.size w ((w.alloc o).drewN n) := fun o n => ⟨(hA o).os, (hA o).tape, (hA o).output, (hA o).size, (hA o).block⟩
  have HC : Aside ((cls x).isSome = false) := dcls_no h1 (.inl h0)
  obtain ⟨xo, xp, xj, xh, xl, xf, xt⟩ := x
  simp only at *
  have ch' : ∀ W, Calls Tryz.prog 76 #[.int .u8 xh] W fun e w' => e = .returned (.bool false) ∧ w' = W := fun W => by rw [← h0]; exact ch _ _
  clear h0 ch
  go_enter Tryz.func60, Tryz.ntmps60
  go_wp2_with (go_at_call 76; refine (ch' _).mono ?_; rintro e w' ⟨rfl, rfl⟩)
  go_ret
  exact isSome_bool HC.out (hA _)
set_option maxHeartbeats 800000 in
theorem dgood_p (x : N) (w : World) (h1 : x.op ≠ 1) (h0 : (hOf x.head).isSome = true) (hp : x.proj ≠ 0 ∧ isLab x.proj = false) :
    Calls Tryz.prog 60 #[.agg #[.int .i8 x.op, .int .i64 x.proj, .bool x.inj, .int .u8 x.head, .int .i64 x.label, .int .u8 x.frm, .int .u8 x.tto]] w fun e w' => e = .returned (.bool (cls x).isSome) ∧ Below w.heap.size w w' := by
  have cl := dlabel_any
  have ch := dhead_any
  have co := dopOf_any
  have hA : ∀ o, Below w.heap.size w (w.alloc o) := fun o => (Below.refl _ _).alloc (Nat.le_refl _) _
  have hD : ∀ o n, Below w.heap.size w ((w.alloc o).drewN n) := fun o n => ⟨(hA o).os, (hA o).tape, (hA o).output, (hA o).size, (hA o).block⟩
  have HC : Aside ((cls x).isSome = false) := dcls_no h1 (.inr hp)
  obtain ⟨xo, xp, xj, xh, xl, xf, xt⟩ := x
  simp only at *
  obtain ⟨hp1, hp2⟩ := hp
  have ch' : ∀ W, Calls Tryz.prog 76 #[.int .u8 xh] W fun e w' => e = .returned (.bool true) ∧ w' = W := fun W => by rw [← h0]; exact ch _ _
  have cl' : ∀ W, Calls Tryz.prog 85 #[.int .i64 xp] W fun e w' => e = .returned (.bool false) ∧ w' = W := fun W => by rw [← hp2]; exact cl _ _
  clear h0 hp2 ch cl
  go_enter Tryz.func60, Tryz.ntmps60
  go_wp2_with (first | (go_at_call 85; refine (cl' _).mono ?_; rintro e w' ⟨rfl, rfl⟩) | (go_at_call 76; refine (ch' _).mono ?_; rintro e w' ⟨rfl, rfl⟩))
  go_ret
  exact isSome_bool HC.out (hA _)
set_option maxHeartbeats 800000 in
theorem dgood_7z (x : N) (w : World) (h0 : (hOf x.head).isSome = true) (hp : ¬ (x.proj ≠ 0 ∧ isLab x.proj = false)) (h7 : x.op = 7) (hp0 : x.proj = 0) :
    Calls Tryz.prog 60 #[.agg #[.int .i8 x.op, .int .i64 x.proj, .bool x.inj, .int .u8 x.head, .int .i64 x.label, .int .u8 x.frm, .int .u8 x.tto]] w fun e w' => e = .returned (.bool (cls x).isSome) ∧ Below w.heap.size w w' := by
  have cl := dlabel_any
  have ch := dhead_any
  have co := dopOf_any
  have hA : ∀ o, Below w.heap.size w (w.alloc o) := fun o => (Below.refl _ _).alloc (Nat.le_refl _) _
  have hD : ∀ o n, Below w.heap.size w ((w.alloc o).drewN n) := fun o n => ⟨(hA o).os, (hA o).tape, (hA o).output, (hA o).size, (hA o).block⟩
  have c1 : x.proj ≠ 0 → ∀ W, Calls Tryz.prog 85 #[.int .i64 x.proj] W fun e w' => e = .returned (.bool true) ∧ w' = W := by
    intro hp0 W
    have : isLab x.proj = true := by
      cases h : isLab x.proj
      · exact absurd ⟨hp0, h⟩ hp
      · rfl
    rw [← this]
    exact cl _ _
  have ch' : ∀ W, Calls Tryz.prog 76 #[.int .u8 x.head] W fun e w' => e = .returned (.bool true) ∧ w' = W := fun W => by rw [← h0]; exact ch _ _
  have HC : Aside ((cls x).isSome = _) := dcls_7 h0 hp h7
  obtain ⟨xo, xp, xj, xh, xl, xf, xt⟩ := x
  simp only at *
  subst h7
  clear h0 hp
  clear c1
  go_enter Tryz.func60, Tryz.ntmps60
  go_wp2_with (first | (go_at_call 76; refine (ch' _).mono ?_; rintro e w' ⟨rfl, rfl⟩; clear ch') | (go_at_call 85; refine (cl _ _).mono ?_; rintro e w' ⟨rfl, rfl⟩) | (go_at_call 76; refine (ch _ _).mono ?_; rintro e w' ⟨rfl, rfl⟩))
  all_goals
    go_ret
    exact isSome_bool (HC.out.trans (by simp_all)) (hA _)
set_option maxHeartbeats 800000 in
theorem dgood_oz (x : N) (w : World) (h0 : (hOf x.head).isSome = true) (hp : ¬ (x.proj ≠ 0 ∧ isLab x.proj = false)) (h1 : x.op ≠ 1) (h7 : x.op ≠ 7) (hp0 : x.proj = 0) :
    Calls Tryz.prog 60 #[.agg #[.int .i8 x.op, .int .i64 x.proj, .bool x.inj, .int .u8 x.head, .int .i64 x.label, .int .u8 x.frm, .int .u8 x.tto]] w fun e w' => e = .returned (.bool (cls x).isSome) ∧ Below w.heap.size w w' := by
  have cl := dlabel_any
  have ch := dhead_any
  have co := dopOf_any
  have hA : ∀ o, Below w.heap.size w (w.alloc o) := fun o => (Below.refl _ _).alloc (Nat.le_refl _) _
  have hD : ∀ o n, Below w.heap.size w ((w.alloc o).drewN n) := fun o n => ⟨(hA o).os, (hA o).tape, (hA o).output, (hA o).size, (hA o).block⟩
  have c1 : x.proj ≠ 0 → ∀ W, Calls Tryz.prog 85 #[.int .i64 x.proj] W fun e w' => e = .returned (.bool true) ∧ w' = W := by
    intro hp0 W
    have : isLab x.proj = true := by
      cases h : isLab x.proj
      · exact absurd ⟨hp0, h⟩ hp
      · rfl
    rw [← this]
    exact cl _ _
  have ch' : ∀ W, Calls Tryz.prog 76 #[.int .u8 x.head] W fun e w' => e = .returned (.bool true) ∧ w' = W := fun W => by rw [← h0]; exact ch _ _
  have HC : Aside ((cls x).isSome = _) := dcls_o h0 hp h1 h7
  obtain ⟨xo, xp, xj, xh, xl, xf, xt⟩ := x
  simp only at *
  have co' : ∀ W, Calls Tryz.prog 77 #[.int .u8 xh] W fun e w' => e = .returned (.int .i8 (opD xh)) ∧ w' = W := fun W => co _ _
  clear h0 hp ch co cl
  generalize opD xh = ob at *
  clear c1
  by_cases e1 : xo = ob
  · subst e1
    by_cases e2 : xl = 0
    · subst e2
      by_cases e3 : xf = 0
      · subst e3
        go_enter Tryz.func60, Tryz.ntmps60
        go_wp2_with (first | (go_at_call 76; refine (ch' _).mono ?_; rintro e w' ⟨rfl, rfl⟩; clear ch'))
        go_quiet ((go_at_call 77; exact Calls.quiet_of_same (co' _)))
        go_wp2
        go_ret
        exact isSome_bool (HC.out.trans (by simp)) (hD _ _)
      · have hd : decide (xf = 0) = false := by simpa using e3
        go_enter Tryz.func60, Tryz.ntmps60
        go_wp2_with (first | (go_at_call 76; refine (ch' _).mono ?_; rintro e w' ⟨rfl, rfl⟩; clear ch'))
        go_quiet ((go_at_call 77; exact Calls.quiet_of_same (co' _)))
        go_wp2
        go_ret
        exact isSome_bool (HC.out.trans (by simp [e3])) (hD _ _)
    · have hd : decide (xl = 0) = false := by simpa using e2
      go_enter Tryz.func60, Tryz.ntmps60
      go_wp2_with (first | (go_at_call 76; refine (ch' _).mono ?_; rintro e w' ⟨rfl, rfl⟩; clear ch'))
      go_quiet ((go_at_call 77; exact Calls.quiet_of_same (co' _)))
      go_wp2
      go_ret
      exact isSome_bool (HC.out.trans (by simp [e2])) (hD _ _)
  · have hd : decide (xo = ob) = false := by simpa using e1
    go_enter Tryz.func60, Tryz.ntmps60
    go_wp2_with (first | (go_at_call 76; refine (ch' _).mono ?_; rintro e w' ⟨rfl, rfl⟩; clear ch'))
    go_quiet ((go_at_call 77; exact Calls.quiet_of_same (co' _)))
    go_wp2
    go_ret
    exact isSome_bool (HC.out.trans (by simp [e1])) (hD _ _)
set_option maxHeartbeats 800000 in
theorem dgood_7n (x : N) (w : World) (h0 : (hOf x.head).isSome = true) (hp : ¬ (x.proj ≠ 0 ∧ isLab x.proj = false)) (h7 : x.op = 7) (hp0 : x.proj ≠ 0) :
    Calls Tryz.prog 60 #[.agg #[.int .i8 x.op, .int .i64 x.proj, .bool x.inj, .int .u8 x.head, .int .i64 x.label, .int .u8 x.frm, .int .u8 x.tto]] w fun e w' => e = .returned (.bool (cls x).isSome) ∧ Below w.heap.size w w' := by
  have cl := dlabel_any
  have ch := dhead_any
  have co := dopOf_any
  have hA : ∀ o, Below w.heap.size w (w.alloc o) := fun o => (Below.refl _ _).alloc (Nat.le_refl _) _
  have hD : ∀ o n, Below w.heap.size w ((w.alloc o).drewN n) := fun o n => ⟨(hA o).os, (hA o).tape, (hA o).output, (hA o).size, (hA o).block⟩
  have c1 : x.proj ≠ 0 → ∀ W, Calls Tryz.prog 85 #[.int .i64 x.proj] W fun e w' => e = .returned (.bool true) ∧ w' = W := by
    intro hp0 W
    have : isLab x.proj = true := by
      cases h : isLab x.proj
      · exact absurd ⟨hp0, h⟩ hp
      · rfl
    rw [← this]
    exact cl _ _
  have ch' : ∀ W, Calls Tryz.prog 76 #[.int .u8 x.head] W fun e w' => e = .returned (.bool true) ∧ w' = W := fun W => by rw [← h0]; exact ch _ _
  have HC : Aside ((cls x).isSome = _) := dcls_7 h0 hp h7
  obtain ⟨xo, xp, xj, xh, xl, xf, xt⟩ := x
  simp only at *
  subst h7
  clear h0 hp
  have c2 := c1 hp0
  clear c1
  go_enter Tryz.func60, Tryz.ntmps60
  go_wp2_with (first | (go_at_call 76; refine (ch' _).mono ?_; rintro e w' ⟨rfl, rfl⟩; clear ch') | (go_at_call 85; refine (c2 _).mono ?_; rintro e w' ⟨rfl, rfl⟩; clear c2) | (go_at_call 85; refine (cl _ _).mono ?_; rintro e w' ⟨rfl, rfl⟩) | (go_at_call 76; refine (ch _ _).mono ?_; rintro e w' ⟨rfl, rfl⟩))
  all_goals
    go_ret
    exact isSome_bool (HC.out.trans (by simp_all)) (hA _)
set_option maxHeartbeats 800000 in
theorem dgood_on (x : N) (w : World) (h0 : (hOf x.head).isSome = true) (hp : ¬ (x.proj ≠ 0 ∧ isLab x.proj = false)) (h1 : x.op ≠ 1) (h7 : x.op ≠ 7) (hp0 : x.proj ≠ 0) :
    Calls Tryz.prog 60 #[.agg #[.int .i8 x.op, .int .i64 x.proj, .bool x.inj, .int .u8 x.head, .int .i64 x.label, .int .u8 x.frm, .int .u8 x.tto]] w fun e w' => e = .returned (.bool (cls x).isSome) ∧ Below w.heap.size w w' := by
  have cl := dlabel_any
  have ch := dhead_any
  have co := dopOf_any
  have hA : ∀ o, Below w.heap.size w (w.alloc o) := fun o => (Below.refl _ _).alloc (Nat.le_refl _) _
  have hD : ∀ o n, Below w.heap.size w ((w.alloc o).drewN n) := fun o n => ⟨(hA o).os, (hA o).tape, (hA o).output, (hA o).size, (hA o).block⟩
  have c1 : x.proj ≠ 0 → ∀ W, Calls Tryz.prog 85 #[.int .i64 x.proj] W fun e w' => e = .returned (.bool true) ∧ w' = W := by
    intro hp0 W
    have : isLab x.proj = true := by
      cases h : isLab x.proj
      · exact absurd ⟨hp0, h⟩ hp
      · rfl
    rw [← this]
    exact cl _ _
  have ch' : ∀ W, Calls Tryz.prog 76 #[.int .u8 x.head] W fun e w' => e = .returned (.bool true) ∧ w' = W := fun W => by rw [← h0]; exact ch _ _
  have HC : Aside ((cls x).isSome = _) := dcls_o h0 hp h1 h7
  obtain ⟨xo, xp, xj, xh, xl, xf, xt⟩ := x
  simp only at *
  have co' : ∀ W, Calls Tryz.prog 77 #[.int .u8 xh] W fun e w' => e = .returned (.int .i8 (opD xh)) ∧ w' = W := fun W => co _ _
  clear h0 hp ch co cl
  generalize opD xh = ob at *
  have c2 := c1 hp0
  clear c1
  by_cases e1 : xo = ob
  · subst e1
    by_cases e2 : xl = 0
    · subst e2
      by_cases e3 : xf = 0
      · subst e3
        go_enter Tryz.func60, Tryz.ntmps60
        go_wp2_with (first | (go_at_call 76; refine (ch' _).mono ?_; rintro e w' ⟨rfl, rfl⟩; clear ch') | (go_at_call 85; refine (c2 _).mono ?_; rintro e w' ⟨rfl, rfl⟩; clear c2))
        go_quiet ((go_at_call 77; exact Calls.quiet_of_same (co' _)))
        go_wp2
        go_ret
        exact isSome_bool (HC.out.trans (by simp)) (hD _ _)
      · have hd : decide (xf = 0) = false := by simpa using e3
        go_enter Tryz.func60, Tryz.ntmps60
        go_wp2_with (first | (go_at_call 76; refine (ch' _).mono ?_; rintro e w' ⟨rfl, rfl⟩; clear ch') | (go_at_call 85; refine (c2 _).mono ?_; rintro e w' ⟨rfl, rfl⟩; clear c2))
        go_quiet ((go_at_call 77; exact Calls.quiet_of_same (co' _)))
        go_wp2
        go_ret
        exact isSome_bool (HC.out.trans (by simp [e3])) (hD _ _)
    · have hd : decide (xl = 0) = false := by simpa using e2
      go_enter Tryz.func60, Tryz.ntmps60
      go_wp2_with (first | (go_at_call 76; refine (ch' _).mono ?_; rintro e w' ⟨rfl, rfl⟩; clear ch') | (go_at_call 85; refine (c2 _).mono ?_; rintro e w' ⟨rfl, rfl⟩; clear c2))
      go_quiet ((go_at_call 77; exact Calls.quiet_of_same (co' _)))
      go_wp2
      go_ret
      exact isSome_bool (HC.out.trans (by simp [e2])) (hD _ _)
  · have hd : decide (xo = ob) = false := by simpa using e1
    go_enter Tryz.func60, Tryz.ntmps60
    go_wp2_with (first | (go_at_call 76; refine (ch' _).mono ?_; rintro e w' ⟨rfl, rfl⟩; clear ch') | (go_at_call 85; refine (c2 _).mono ?_; rintro e w' ⟨rfl, rfl⟩; clear c2))
    go_quiet ((go_at_call 77; exact Calls.quiet_of_same (co' _)))
    go_wp2
    go_ret
    exact isSome_bool (HC.out.trans (by simp [e1])) (hD _ _)
theorem dgood_any (x : N) (w : World) :
    Calls Tryz.prog 60 #[.agg #[.int .i8 x.op, .int .i64 x.proj, .bool x.inj, .int .u8 x.head, .int .i64 x.label, .int .u8 x.frm, .int .u8 x.tto]] w fun e w' => e = .returned (.bool (cls x).isSome) ∧ Below w.heap.size w w' := by
  by_cases h1 : x.op = 1
  · exact dgood_1 x w h1
  cases h0 : (hOf x.head).isSome
  · exact dgood_h x w h1 h0
  by_cases hp : x.proj ≠ 0 ∧ isLab x.proj = false
  · exact dgood_p x w h1 h0 hp
  by_cases h7 : x.op = 7
  · by_cases hp0 : x.proj = 0
    · exact dgood_7z x w h0 hp h7 hp0
    · exact dgood_7n x w h0 hp h7 hp0
  · by_cases hp0 : x.proj = 0
    · exact dgood_oz x w h0 hp h1 h7 hp0
    · exact dgood_on x w h0 hp h1 h7 hp0
end Go.Proofs.YtaaokecdmbmgbaaGreatDoor
