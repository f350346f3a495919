/- Package coerce: nodes and trees in memory; small questions. -/
import Derived.Test.YtkmoeflodafoeaaGreatDoorRows
import Derived.Test.YtkmoeflodafoeaaGreatDoorUbi
import Derived.Test.YtkmoeflodafoeaaGreatDoorUan
import Derived.WalkKit
import Derived.WalkSpells
import Derived.WalkLawsBesides
import Derived.Deep.LoopGhost
import Derived.Deep.QuietTactic
import Derived.BigQuiet
import Derived.Deep.DeepCutAuto
namespace Go.Proofs.YtkmoeflodafoeaaGreatDoor
open Go.RowKit
set_option maxRecDepth 100000
set_option linter.unusedSimpArgs false
set_option linter.unusedVariables false

namespace Cc
/-- A node's seven cells. -/
def ncell (x : N) : List Value := [.int .i8 x.op, .int .i64 x.proj, .bool x.inj, .int .u8 x.head, .int .i64 x.label, .int .u8 x.frm, .int .u8 x.tto]
def crow (l : List N) : List Value := l.flatMap ncell
/-- A node's seven cells lie there. -/
def At1 (w : World) (b o : Nat) (x : N) : Prop :=
  w.cell? ⟨b, o, none⟩ = some (.int .i8 x.op) ∧ w.cell? ⟨b, o + 1, none⟩ = some (.int .i64 x.proj) ∧ w.cell? ⟨b, o + 2, none⟩ = some (.bool x.inj) ∧ w.cell? ⟨b, o + 3, none⟩ = some (.int .u8 x.head) ∧ w.cell? ⟨b, o + 4, none⟩ = some (.int .i64 x.label) ∧ w.cell? ⟨b, o + 5, none⟩ = some (.int .u8 x.frm) ∧ w.cell? ⟨b, o + 6, none⟩ = some (.int .u8 x.tto)
/-- Nodes lie there, one behind the other. -/
def At (w : World) (b : Nat) : Nat → List N → Prop
  | _, [] => True
  | o, x :: r => At1 w b o x ∧ At w b (o + 7) r
theorem At1.below {w w' : World} {b o : Nat} {x : N} (h : At1 w b o x) (hb : b < w.heap.size) (hB : Below w.heap.size w w') : At1 w' b o x := by
  have e : ∀ o, w'.cell? ⟨b, o, none⟩ = w.cell? ⟨b, o, none⟩ := fun o => hB.cell (p := ⟨b, o, none⟩) hb
  unfold At1 at h ⊢
  simp only [e]
  exact h
theorem At.below {w w' : World} {b : Nat} (hb : b < w.heap.size) (hB : Below w.heap.size w w') : ∀ {l : List N} {o : Nat}, At w b o l → At w' b o l
  | [], _, _ => trivial
  | x :: r, o, h => ⟨h.1.below hb hB, At.below hb hB h.2⟩
theorem At.app {w : World} {b : Nat} : ∀ {l m : List N} {o : Nat}, At w b o (l ++ m) ↔ At w b o l ∧ At w b (o + 7 * l.length) m
  | [], m, o => by simp [At]
  | x :: r, m, o => by
    rw [List.cons_append, At, At, At.app, List.length_cons, show o + 7 + 7 * r.length = o + 7 * (r.length + 1) by omega]
    exact and_assoc.symm
def tyK : K → TypeId
  | .fn => 283 | .pr => 286 | .bx => 292
/-- A tree as the program holds it: its nodes lie in block b from cell o on. -/
def tv (b : Nat) : Nat → C → Value
  | o, .any => .iface 280 (.agg #[.slice (some ⟨b, o, none⟩) 1 1])
  | o, .bs _ _ _ => .iface 321 (.agg #[.slice (some ⟨b, o, none⟩) 1 1])
  | o, .fl _ _ _ _ => .iface 281 (.agg #[.slice (some ⟨b, o, none⟩) 1 1])
  | o, .ls _ _ a => .iface 289 (.agg #[.slice (some ⟨b, o, none⟩) (size a + 1) (size a + 1), tv b (o + 7) a])
  | o, .tw k _ _ a c => .iface (tyK k) (.agg #[.slice (some ⟨b, o, none⟩) (size a + size c + 1) (size a + size c + 1), tv b (o + 7) a, tv b (o + 7 + 7 * size a) c])
def opB (c : Int) : Int := match hOf c with | none => 0 | some h => opH h
def kidB (c : Int) : Int := if c = 3 ∨ c = 4 ∨ c = 6 then 2 else if c = 5 then 1 else 0
end Cc
open Cc
theorem ret_i8 {a b : Int} (h : a = b) : Ending.returned (.int .i8 a) = .returned (.int .i8 b) := by rw [h]
theorem ret_b {a b : Bool} (h : a = b) : Ending.returned (.bool a) = .returned (.bool b) := by rw [h]
theorem ret_i64 {a b : Int} (h : a = b) : Ending.returned (.int .i64 a) = .returned (.int .i64 b) := by rw [h]

set_option maxHeartbeats 400000 in
theorem opOf_any (c : Int) (w : World) :
    Calls Tryz.prog 127 #[.int .u8 c] w fun e w' => e = .returned (.int .i8 (opB c)) ∧ w' = w := by
  go_enter Tryz.func127, Tryz.ntmps127
  go_wp2
  all_goals
    go_ret
    refine ⟨ret_i8 ?_, rfl⟩
    unfold opB hOf
    simp_all [opH, opK]
set_option maxHeartbeats 400000 in
theorem kidsOf_any (c : Int) (w : World) :
    Calls Tryz.prog 168 #[.int .i8 c] w fun e w' => e = .returned (.int .i64 (kidB c)) ∧ w' = w := by
  go_enter Tryz.func168, Tryz.ntmps168
  go_wp2
  all_goals
    go_ret
    refine ⟨ret_i64 ?_, rfl⟩
    unfold kidB
    simp_all
set_option maxHeartbeats 400000 in
theorem isHead_any (c : Int) (w : World) :
    Calls Tryz.prog 191 #[.int .u8 c] w fun e w' => e = .returned (.bool (hOf c).isSome) ∧ w' = w := by
  go_enter Tryz.func191, Tryz.ntmps191
  go_wp2_with (go_at_call 127; refine (opOf_any _ _).mono ?_; rintro e w' ⟨rfl, rfl⟩)
  go_ret
  refine ⟨ret_b ?_, rfl⟩
  unfold opB
  cases h : hOf c with
  | none => simp
  | some g => cases g <;> (try (simp [opH]; done)); rename_i k; cases k <;> simp [opH, opK]
set_option maxHeartbeats 400000 in
theorem isLabel_any (c : Int) (w : World) :
    Calls Tryz.prog 60 #[.int .i64 c] w fun e w' => e = .returned (.bool (isLab c)) ∧ w' = w := by
  go_enter Tryz.func60, Tryz.ntmps60
  go_wp2
  all_goals
    go_ret
    refine ⟨ret_b ?_, rfl⟩
    unfold isLab
    simp_all <;> omega
set_option maxHeartbeats 400000 in
theorem root_any (b o n c : Nat) (x : N) (w : World) (hx : At1 w b o x) (hb : b < w.heap.size) (hn : 0 < n) :
    Calls Tryz.prog 249 #[.slice (some ⟨b, o, none⟩) n c] w fun e w' => e = .returned (.agg (ncell x).toArray) ∧ Below w.heap.size w w' := by
  obtain ⟨h0, h1, h2, h3, h4, h5, h6⟩ := hx
  go_enter Tryz.func249, Tryz.ntmps249
  go_wp2
  exact bodyPost_ret (v := .agg (ncell x).toArray) (by simp [results, Tryz.results249, go_sem, ncell]) rfl ⟨rfl, (Below.refl _ _).alloc (Nat.le_refl _) _⟩
theorem fld1 (a0 a1 a2 a3 a4 a5 a6 : Value) (w : World) : (Instr.field 29 (.agg #[a0, a1, a2, a3, a4, a5, a6]) 1).run Tryz.prog w = .ok a1 w := by kernel_rfl
theorem fld2 (a0 a1 a2 a3 a4 a5 a6 : Value) (w : World) : (Instr.field 29 (.agg #[a0, a1, a2, a3, a4, a5, a6]) 2).run Tryz.prog w = .ok a2 w := by kernel_rfl
theorem nodes_any (v : Value) (w : World) :
    Calls Tryz.prog 248 #[v] w fun e w' => e = .returned v ∧ w' = w := by
  go_enter Tryz.func248, Tryz.ntmps248
  go_wp2
  go_ret
  exact ⟨rfl, rfl⟩
/-- Its nodes lie there. -/
def Cc.Lie (w : World) (b o : Nat) (c : C) : Prop := At w b o (flat c) ∧ b < w.heap.size
theorem Cc.Lie.at1 {w : World} {b o : Nat} {c : C} (h : Lie w b o c) : At1 w b o (nod c) := by
  obtain ⟨r, e⟩ := flat_cons c
  have := h.1
  rw [e] at this
  exact this.1
theorem Cc.Lie.below {w w' : World} {b o : Nat} {c : C} (h : Lie w b o c) (hB : Below w.heap.size w w') : Lie w' b o c := ⟨h.1.below h.2 hB, Nat.lt_of_lt_of_le h.2 hB.size⟩
theorem Cc.Lie.ls {w : World} {b o : Nat} {p : Int} {j : Bool} {a : C} (h : Lie w b o (.ls p j a)) : Lie w b (o + 7) a := ⟨h.1.2, h.2⟩
theorem Cc.Lie.tw {w : World} {b o : Nat} {k : K} {p : Int} {j : Bool} {a c : C} (h : Lie w b o (.tw k p j a c)) : Lie w b (o + 7) a ∧ Lie w b (o + 7 + 7 * Cc.size a) c := by
  obtain ⟨⟨_, h1⟩, h2⟩ := h
  rw [At.app, flat_len] at h1
  exact ⟨⟨h1.1, h2⟩, ⟨h1.2, h2⟩⟩
theorem tv_meth (c : C) (b o : Nat) : ∃ T v, tv b o c = .iface T v ∧
    (∀ w, (method 460 T v "culprit/coerce.root").run Tryz.prog w = .ok (249, .slice (some ⟨b, o, none⟩) (Cc.size c) (Cc.size c)) w) ∧
    (∀ w, (method 460 T v "culprit/coerce.nodes").run Tryz.prog w = .ok (248, .slice (some ⟨b, o, none⟩) (Cc.size c) (Cc.size c)) w) := by
  cases c with
  | any => exact ⟨_, _, rfl, fun w => by kernel_rfl, fun w => by kernel_rfl⟩
  | bs p j h => exact ⟨_, _, rfl, fun w => by kernel_rfl, fun w => by kernel_rfl⟩
  | fl p h l t => exact ⟨_, _, rfl, fun w => by kernel_rfl, fun w => by kernel_rfl⟩
  | ls p j a => exact ⟨_, _, rfl, fun w => by kernel_rfl, fun w => by kernel_rfl⟩
  | tw k p j a d => cases k <;> exact ⟨_, _, rfl, fun w => by kernel_rfl, fun w => by kernel_rfl⟩
theorem nod_any {c : C} : ((nod c).op = 1) ↔ c = .any := by
  cases c <;> simp [nod, sh, shN]
  rename_i k p j a d; cases k <;> simp [opK]
theorem nod_proj {c : C} : (nod c).proj = proj c := by cases c <;> rfl
theorem nod_inj {c : C} : (nod c).inj = inj c := by cases c <;> rfl
theorem beg_nod (c : C) : beg c = (((nod c).proj != 0) || ((nod c).op == 1)) := by
  cases c with
  | tw k p j a d => cases k <;> simp [beg, nod, sh, shN, proj, opK]
  | _ => simp [beg, nod, sh, shN, proj]
set_option maxHeartbeats 400000 in
theorem begins_any (c : C) (b o : Nat) (w : World) (h : Lie w b o c) :
    Calls Tryz.prog 130 #[tv b o c] w fun e w' => e = .returned (.bool (beg c)) ∧ Below w.heap.size w w' := by
  obtain ⟨T, v, e, hm, -⟩ := tv_meth c b o
  rw [e, beg_nod c]
  have hx := h.at1
  have hb := h.2
  have hp := size_pos c
  generalize nod c = x at hx
  go_enter Tryz.func130, Tryz.ntmps130
  go_wp2_with (go_at_call 249; refine (root_any b o _ _ x _ hx hb (by omega)).mono ?_; rintro e w' ⟨rfl, hB⟩; simp only [ncell])
  all_goals
    go_ret
    exact ⟨ret_b (by simp_all), hB.alloc hB.size _⟩
set_option maxHeartbeats 400000 in
theorem ends_any (c : C) (b o : Nat) (w : World) (h : Lie w b o c) :
    Calls Tryz.prog 129 #[tv b o c] w fun e w' => e = .returned (.bool (fin c)) ∧ Below w.heap.size w w' := by
  have hx := h.at1
  have hb := h.2
  have hp := size_pos c
  clear h
  have f2 := fld2
  cases c with
  | any =>
    have q1 := ta_unknown_unknown
    have q2 := ta_unknown_failure
    rw [tv]
    go_enter Tryz.func129, Tryz.ntmps129
    go_wp2
    go_ret
    exact ⟨rfl, Below.refl _ _⟩
  | fl p h l t =>
    have q1 := ta_failure_unknown
    have q2 := ta_failure_failure
    rw [tv]
    go_enter Tryz.func129, Tryz.ntmps129
    go_wp2
    go_ret
    exact ⟨rfl, Below.refl _ _⟩
  | bs p j h =>
    have q1 := ta_base_unknown
    have q2 := ta_base_failure
    obtain ⟨T, v, e, hm, -⟩ := tv_meth (.bs p j h) b o
    rw [tv] at e ⊢
    injection e with e1 e2
    subst e1 e2
    go_enter Tryz.func129, Tryz.ntmps129
    go_wp2_with (go_at_call 249; refine (root_any b o _ _ _ _ hx hb (by omega)).mono ?_; rintro e w' ⟨rfl, hB⟩; simp only [ncell])
    go_ret
    exact ⟨rfl, hB⟩
  | ls p j a =>
    have q1 := ta_list_unknown
    have q2 := ta_list_failure
    obtain ⟨T, v, e, hm, -⟩ := tv_meth (.ls p j a) b o
    rw [tv] at e ⊢
    injection e with e1 e2
    subst e1 e2
    generalize tv b (o + 7) a = ka at *
    go_enter Tryz.func129, Tryz.ntmps129
    go_wp2_with (go_at_call 249; refine (root_any b o _ _ _ _ hx hb (by omega)).mono ?_; rintro e w' ⟨rfl, hB⟩; simp only [ncell])
    go_ret
    exact ⟨rfl, hB⟩
  | tw k p j a d =>
    have q1 := ta_function_unknown
    have q2 := ta_function_failure
    have q3 := ta_pair_unknown
    have q4 := ta_pair_failure
    have q5 := ta_box_unknown
    have q6 := ta_box_failure
    obtain ⟨T, v, e, hm, -⟩ := tv_meth (.tw k p j a d) b o
    rw [tv] at e ⊢
    injection e with e1 e2
    subst e1 e2
    generalize tv b (o + 7) a = ka at *
    generalize tv b (o + 7 + 7 * size a) d = kd at *
    cases k <;> simp only [tyK] at hm ⊢
    all_goals
      go_enter Tryz.func129, Tryz.ntmps129
      go_wp2_with (go_at_call 249; refine (root_any b o _ _ _ _ hx hb (by omega)).mono ?_; rintro e w' ⟨rfl, hB⟩; simp only [ncell])
      go_ret
      exact ⟨rfl, hB⟩
set_option maxHeartbeats 400000 in
theorem reaches_any (c : C) (b o : Nat) (f t : Bool) (w : World) (h : Lie w b o c) :
    Calls Tryz.prog 192 #[tv b o c, .bool f, .bool t] w fun e w' => e = .returned (.bool (reach c f t)) ∧ Below w.heap.size w w' := by
  have c1 := begins_any c b o w h
  have c2 := fun (w' : World) (hB : Below w.heap.size w w') => ends_any c b o w' (h.below hB)
  generalize tv b o c = v at *
  unfold reach
  generalize beg c = x1 at *
  generalize fin c = x2 at *
  cases x1 <;> cases f
  all_goals
    go_enter Tryz.func192, Tryz.ntmps192
    go_wp2_with (first | (go_at_call 130; refine c1.mono ?_; rintro e w1 ⟨rfl, hB⟩) | (go_at_call 129; refine (c2 _ hB).mono ?_; rintro e w2 ⟨rfl, hB2⟩))
    all_goals
      go_ret
      refine ⟨ret_b (by simp_all), ?_⟩
      first | exact hB | exact hB.trans (hB2.mono hB.size)
end Go.Proofs.YtkmoeflodafoeaaGreatDoor
