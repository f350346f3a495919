/- Package coerce: high, Height, IsId. -/
import Derived.Test.YtaaokecdmbmgbaaDoorUat
namespace Go.Proofs.YtaaokecdmbmgbaaDoor
open Go.RowKit Cc
set_option maxRecDepth 100000
set_option linter.unusedSimpArgs false
set_option linter.unusedVariables false
def Cc.HgC (n : Nat) : Prop := ∀ (c : C) (b o : Nat) (w : World), Cc.size c ≤ n → Cc.high c ≤ 1000 → Lie w b o c → Calls Tryd.prog 43 #[tv b o c] w fun e w' => e = .returned (.int .i64 (Cc.high c : Int)) ∧ Below w.heap.size w w'
theorem Cc.HgC.at {n : Nat} (h : HgC n) (c : C) (b o : Nat) (w : World) (hz : Cc.size c ≤ n) (hh : Cc.high c ≤ 1000) (hl : Lie w b o c) (W : World) (hW : Below w.heap.size w W) :
    Calls Tryd.prog 43 #[tv b o c] W fun e w' => e = .returned (.int .i64 (Cc.high c : Int)) ∧ Below w.heap.size w w' ∧ Below W.heap.size W w' :=
  (h c b o W hz hh (hl.below hW)).mono (by rintro e w' ⟨rfl, hB⟩; exact ⟨rfl, hW.trans (hB.mono hW.size), hB⟩)
set_option maxHeartbeats 1600000 in
theorem high_leaf (c : C) (b o : Nat) (w : World) (h : nk (sh c) = 0) :
    Calls Tryd.prog 43 #[tv b o c] w fun e w' => e = .returned (.int .i64 1) ∧ Below w.heap.size w w' := by
  have q1 := ta_unknown_function
  have q2 := ta_unknown_pair
  have q3 := ta_unknown_list
  have q4 := ta_unknown_box
  have q5 := ta_base_function
  have q6 := ta_base_pair
  have q7 := ta_base_list
  have q8 := ta_base_box
  have q9 := ta_failure_function
  have q10 := ta_failure_pair
  have q11 := ta_failure_list
  have q12 := ta_failure_box
  cases c with
  | ls p j a => simp [sh, nk] at h
  | tw k p j a d => simp [sh, nk] at h
  | _ =>
    rw [tv]
    go_enter Tryd.func43, Tryd.ntmps43
    go_wp2
    go_ret
    exact ⟨rfl, Below.refl _ _⟩
set_option maxHeartbeats 1600000 in
theorem high_ls (n : Nat) (hT : HgC n) (p : Int) (j : Bool) (a : C) (b o : Nat) (w : World) (hz : Cc.size a ≤ n) (hh : Cc.high a ≤ 999) (hl : Lie w b o (.ls p j a)) :
    Calls Tryd.prog 43 #[tv b o (.ls p j a)] w fun e w' => e = .returned (.int .i64 ((Cc.high a : Int) + 1)) ∧ Below w.heap.size w w' := by
  have q1 := ta_list_function
  have q2 := ta_list_pair
  have q3 := ta_list_list
  have ha := hT.at a b (o + 7) w hz (by omega) hl.ls
  obtain ⟨Ta, va, ea, -⟩ := tv_meth a b (o + 7)
  rw [tv]
  simp only [ea] at ha ⊢
  have hp : (0 : Int) ≤ (Cc.high a : Int) := by omega
  have hp2 : (Cc.high a : Int) ≤ 1000 := by omega
  generalize (Cc.high a : Int) = H at *
  clear ea hl hT
  have hB := Below.refl w.heap.size w
  go_enter Tryd.func43, Tryd.ntmps43
  go_wp2_with (go_at_call 43; refine (ha _ (below_al hB hB.size _)).mono ?_; rintro e w' ⟨rfl, hB, -⟩)
  go_ret
  exact ⟨ret_i64 (by omega), hB⟩
set_option maxHeartbeats 3200000 in
theorem high_tw (n : Nat) (hT : HgC n) (k : K) (p : Int) (j : Bool) (a d : C) (b o : Nat) (w : World) (hz : Cc.size a ≤ n) (hz2 : Cc.size d ≤ n) (hh : Cc.high a ≤ 999) (hh2 : Cc.high d ≤ 999) (hl : Lie w b o (.tw k p j a d)) :
    Calls Tryd.prog 43 #[tv b o (.tw k p j a d)] w fun e w' => e = .returned (.int .i64 (((max (Cc.high a) (Cc.high d) + 1 : Nat)) : Int)) ∧ Below w.heap.size w w' := by
  have q1 := ta_function_function
  have q2 := ta_pair_function
  have q3 := ta_pair_pair
  have q4 := ta_box_function
  have q5 := ta_box_pair
  have q6 := ta_box_list
  have q7 := ta_box_box
  have ha := hT.at a b (o + 7) w hz (by omega) hl.tw.1
  have hd := hT.at d b (o + 7 + 7 * Cc.size a) w hz2 (by omega) hl.tw.2
  obtain ⟨Ta, va, ea, -⟩ := tv_meth a b (o + 7)
  obtain ⟨Td, vd, ed, -⟩ := tv_meth d b (o + 7 + 7 * Cc.size a)
  rw [tv]
  simp only [ea, ed] at ha hd ⊢
  clear ea ed hl hT
  generalize Cc.high a = H1 at *
  generalize Cc.high d = H2 at *
  have hB := Below.refl w.heap.size w
  have hp1 : (0 : Int) ≤ (H1 : Int) := by omega
  have hp2 : (0 : Int) ≤ (H2 : Int) := by omega
  have hp3 : (H1 : Int) ≤ 999 := by omega
  have hp4 : (H2 : Int) ≤ 999 := by omega
  obtain ⟨M, hM⟩ : ∃ M, M = max H1 H2 + 1 := ⟨_, rfl⟩
  have HR : Aside (IntKind.i64.wrap (1 + if H1 < H2 then (H2 : Int) else (H1 : Int)) = (M : Int)) := by
    show _ = _
    split
    · rw [IntWalk.i64_in _ ⟨by omega, by omega⟩]; omega
    · rw [IntWalk.i64_in _ ⟨by omega, by omega⟩]; omega
  rw [← hM]
  clear hM
  have HA : Aside (∀ x, Below w.heap.size w (w.alloc x)) := fun x => (Below.refl _ _).alloc (Nat.le_refl _) _
  have hcal : ∀ (c1 c2 c3 : Value) (t : TypeId) (T : TypeId) (v : Value) (H : Nat), (∀ W, Below w.heap.size w W → Calls Tryd.prog 43 #[.iface T v] W fun e w' => e = .returned (.int .i64 (H : Int)) ∧ Below w.heap.size w w' ∧ Below W.heap.size W w') → ∀ W, Below (w.alloc (.cells #[c1, c2, c3] t)).heap.size (w.alloc (.cells #[c1, c2, c3] t)) W → Calls Tryd.prog 43 #[.iface T v] W fun e w' => e = .returned (.int .i64 (H : Int)) ∧ (w'.cell? ⟨w.heap.size, 1, none⟩ = some c2 ∧ w'.cell? ⟨w.heap.size, 2, none⟩ = some c3) ∧ Below (w.alloc (.cells #[c1, c2, c3] t)).heap.size (w.alloc (.cells #[c1, c2, c3] t)) w' := by
    intro c1 c2 c3 t T v H hc W hW
    refine (hc W ((HA.out _).trans (hW.mono (by simp)))).mono ?_
    rintro e w' ⟨rfl, -, hB2⟩
    have hB3 := hW.trans (hB2.mono hW.size)
    refine ⟨rfl, ⟨(hB3.cell (p := ⟨w.heap.size, 1, none⟩) (by simp)).trans (by go_simp), (hB3.cell (p := ⟨w.heap.size, 2, none⟩) (by simp)).trans (by go_simp)⟩, hB3⟩
  cases k <;> simp only [tyK]
  · have ha' := hcal (.slice (some ⟨b, o, none⟩) (Cc.size a + Cc.size d + 1) (Cc.size a + Cc.size d + 1)) (.iface Ta va) (.iface Td vd) 94 _ _ _ ha
    have hd' := hcal (.slice (some ⟨b, o, none⟩) (Cc.size a + Cc.size d + 1) (Cc.size a + Cc.size d + 1)) (.iface Ta va) (.iface Td vd) 94 _ _ _ hd
    clear ha hd hcal
    go_enter Tryd.func43, Tryd.ntmps43
    go_wp2
    go_region_held3 (fun W => W.cell? ⟨w.heap.size, 1, none⟩ = some (.iface Ta va) ∧ W.cell? ⟨w.heap.size, 2, none⟩ = some (.iface Td vd)) (first | assumption | go_keep) (first | (go_at_call 43; refine (ha' _ (by first | assumption | exact Below.drew (Below.refl _ _) | exact Below.refl _ _)).mono ?_; rintro e w2 ⟨rfl, hs2, hB2⟩; clear ha') | (go_at_call 43; refine (hd' _ (by first | assumption | exact Below.drew (Below.refl _ _) | exact Below.refl _ _)).mono ?_; rintro e w3 ⟨rfl, hs3, hB3⟩; clear hd'))
    rw [HR.out]
    go_wp2
    all_goals
      go_ret
      exact ⟨rfl, (HA.out _).trans (hB3.mono (by simp))⟩
  · have ha' := hcal (.slice (some ⟨b, o, none⟩) (Cc.size a + Cc.size d + 1) (Cc.size a + Cc.size d + 1)) (.iface Ta va) (.iface Td vd) 96 _ _ _ ha
    have hd' := hcal (.slice (some ⟨b, o, none⟩) (Cc.size a + Cc.size d + 1) (Cc.size a + Cc.size d + 1)) (.iface Ta va) (.iface Td vd) 96 _ _ _ hd
    clear ha hd hcal
    go_enter Tryd.func43, Tryd.ntmps43
    go_wp2
    go_region_held3 (fun W => W.cell? ⟨w.heap.size, 1, none⟩ = some (.iface Ta va) ∧ W.cell? ⟨w.heap.size, 2, none⟩ = some (.iface Td vd)) (first | assumption | go_keep) (first | (go_at_call 43; refine (ha' _ (by first | assumption | exact Below.drew (Below.refl _ _) | exact Below.refl _ _)).mono ?_; rintro e w2 ⟨rfl, hs2, hB2⟩; clear ha') | (go_at_call 43; refine (hd' _ (by first | assumption | exact Below.drew (Below.refl _ _) | exact Below.refl _ _)).mono ?_; rintro e w3 ⟨rfl, hs3, hB3⟩; clear hd'))
    rw [HR.out]
    go_wp2
    all_goals
      go_ret
      exact ⟨rfl, (HA.out _).trans (hB3.mono (by simp))⟩
  · have ha' := hcal (.slice (some ⟨b, o, none⟩) (Cc.size a + Cc.size d + 1) (Cc.size a + Cc.size d + 1)) (.iface Ta va) (.iface Td vd) 100 _ _ _ ha
    have hd' := hcal (.slice (some ⟨b, o, none⟩) (Cc.size a + Cc.size d + 1) (Cc.size a + Cc.size d + 1)) (.iface Ta va) (.iface Td vd) 100 _ _ _ hd
    clear ha hd hcal
    go_enter Tryd.func43, Tryd.ntmps43
    go_wp2
    go_region_held3 (fun W => W.cell? ⟨w.heap.size, 1, none⟩ = some (.iface Ta va) ∧ W.cell? ⟨w.heap.size, 2, none⟩ = some (.iface Td vd)) (first | assumption | go_keep) (first | (go_at_call 43; refine (ha' _ (by first | assumption | exact Below.drew (Below.refl _ _) | exact Below.refl _ _)).mono ?_; rintro e w2 ⟨rfl, hs2, hB2⟩; clear ha') | (go_at_call 43; refine (hd' _ (by first | assumption | exact Below.drew (Below.refl _ _) | exact Below.refl _ _)).mono ?_; rintro e w3 ⟨rfl, hs3, hB3⟩; clear hd'))
    rw [HR.out]
    go_wp2
    all_goals
      go_ret
      exact ⟨rfl, (HA.out _).trans (hB3.mono (by simp))⟩
theorem high_any : ∀ n, HgC n
  | n => fun c b o w hz hh hl => by
    cases c with
    | ls p j a =>
      simp only [Cc.high] at hh
      have h := high_ls (Cc.size a) (high_any (Cc.size a)) p j a b o w (Nat.le_refl _) (by omega) hl
      refine h.mono ?_
      rintro e w' ⟨rfl, hB⟩
      exact ⟨ret_i64 (by simp [Cc.high]), hB⟩
    | tw k p j a d =>
      simp only [Cc.high] at hh
      exact high_tw (Cc.size a + Cc.size d) (high_any (Cc.size a + Cc.size d)) k p j a d b o w (by omega) (by omega) (by omega) (by omega) hl
    | any => exact high_leaf _ b o w rfl
    | bs p j g => exact high_leaf _ b o w rfl
    | fl p g l t => exact high_leaf _ b o w rfl
termination_by n => n
decreasing_by all_goals (simp only [Cc.size] at hz; omega)
namespace Cc
def high0 : Option C → Nat
  | some c => high c
  | none => 0
end Cc
set_option maxHeartbeats 800000 in
theorem Height_any (l : List N) (v : Value) (w : World) (h : IsCos w v l) (hl : l.length ≤ 1000000) :
    Calls Tryd.prog 19 #[v] w fun e w' => e = .returned (.int .i64 (high0 (Cc.whole l) : Int)) ∧ Below w.heap.size w w' := by
  obtain ⟨b, o, hL, hc⟩ := whole_is l v w h hl
  have n1 := eq_nil
  have n0 := eq_nil0
  have hB := Below.refl w.heap.size w
  rcases wv_form b o (Cc.whole l) with ⟨e1, e2⟩ | ⟨c, T, u, e1, e2⟩
  · have HE : Aside (high0 (Cc.whole l) = 0) := by rw [e1]; rfl
    rw [e2] at hc
    clear e1 e2
    go_enter Tryd.func19, Tryd.ntmps19
    go_wp2_with (go_at_call 42; refine (hc _ hB).mono ?_; rintro e w1 ⟨rfl, hB, -⟩)
    go_ret
    exact ⟨ret_i64 (by rw [HE.out]; rfl), hB⟩
  · have HE : Aside (high0 (Cc.whole l) = high c) := by rw [e1]; rfl
    have hh : ∀ W, Below w.heap.size w W → Calls Tryd.prog 43 #[.iface T u] W fun e w' => e = .returned (.int .i64 (high c : Int)) ∧ Below w.heap.size w w' := by
      intro W hW
      have hh := high_any (Cc.size c) c b o W (Nat.le_refl _) (by have := (whole_iff.1 e1).2.2; omega) (hL W c hW e1)
      rw [e1, wv] at e2
      rw [e2] at hh
      refine hh.mono ?_
      rintro e w' ⟨rfl, hB⟩
      exact ⟨rfl, hW.trans (hB.mono hW.size)⟩
    rw [e2] at hc
    clear e1 e2 hL
    obtain ⟨H, hH⟩ : ∃ H : Int, H = (high c : Int) := ⟨_, rfl⟩
    rw [← hH] at hh
    have HH : Aside (H = (high0 (Cc.whole l) : Int)) := by rw [HE.out]; exact hH
    clear hH
    go_enter Tryd.func19, Tryd.ntmps19
    go_wp2_with (first | (go_at_call 42; refine (hc _ hB).mono ?_; rintro e w1 ⟨rfl, hB, -⟩) | (go_at_call 43; refine (hh _ hB).mono ?_; rintro e w2 ⟨rfl, hB⟩))
    go_ret
    exact ⟨ret_i64 HH.out, hB⟩
end Go.Proofs.YtaaokecdmbmgbaaDoor
