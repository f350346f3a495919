/- Package coerce: couples; plain facts for meets. Package coerce: meets, where no kids are asked. -/
import Derived.Test.YtkmoeflodafoeaaGreatDoorUbn
namespace Go.Proofs.YtkmoeflodafoeaaGreatDoor
open Go.RowKit Cc
set_option maxRecDepth 100000
set_option linter.unusedSimpArgs false
set_option linter.unusedVariables false
namespace Cc
/-- A row of two couples, in new memory. -/
def Cp2 (w w' : World) (x0 y0 x1 y1 : Value) (v : Value) : Prop :=
  ∃ B, v = .slice (some ⟨B, 0, none⟩) 2 2 ∧ w.heap.size ≤ B ∧ B < w'.heap.size ∧ (∃ cs fz, w'.heap[B]? = some (Obj.cells cs 197 fz)) ∧ w'.cell? ⟨B, 0, none⟩ = some x0 ∧ w'.cell? ⟨B, 1, none⟩ = some y0 ∧ w'.cell? ⟨B, 2, none⟩ = some x1 ∧ w'.cell? ⟨B, 3, none⟩ = some y1
def Cp1 (w w' : World) (x0 y0 : Value) (v : Value) : Prop :=
  ∃ B, v = .slice (some ⟨B, 0, none⟩) 1 1 ∧ w.heap.size ≤ B ∧ B < w'.heap.size ∧ (∃ cs fz, w'.heap[B]? = some (Obj.cells cs 197 fz)) ∧ w'.cell? ⟨B, 0, none⟩ = some x0 ∧ w'.cell? ⟨B, 1, none⟩ = some y0
theorem nod_fl {c : C} : ((nod c).op = 7) ↔ ∃ p h l t, c = .fl p h l t := by
  cases c with
  | tw k p j a d => cases k <;> simp [nod, sh, shN, opK]
  | _ => simp [nod, sh, shN]
theorem nod_head {c : C} (h : c ≠ .any) : (nod c).head = hB (head c) := by
  cases c with
  | any => exact absurd rfl h
  | _ => rfl
/-- It is none that fails. -/
def nofl (c : C) : Prop := ∀ p h l t, c ≠ .fl p h l t
theorem meets_B {s t : C} (h : nofl s) (e : fin s ≠ beg t) : meets s t = false := by
  cases s with
  | fl p g l u => exact absurd rfl (h p g l u)
  | any => rw [any_meets]; cases hb : beg t <;> simp_all [fin]
  | _ => cases t <;> simp_all [meets, fin, beg, inj, proj] <;> (intro hh; simp_all)
theorem meets_C {s t : C} (h : nofl s) (e : fin s = beg t) (h1 : s = .any ∨ t = .any) : meets s t = true := by
  rcases h1 with rfl | rfl
  · rw [any_meets, ← e]; rfl
  · rw [meets_any, e]; rfl
theorem meets_D {s t : C} (h : nofl s) (e : fin s = beg t) (h1 : s ≠ .any) (h2 : t ≠ .any) (h3 : head s ≠ head t) : meets s t = fin s := by
  cases s with
  | fl p g l u => exact absurd rfl (h p g l u)
  | any => exact absurd rfl h1
  | bs p j g => cases t <;> simp_all [meets, fin, beg, inj, proj, head]
  | ls p j a => cases t <;> simp_all [meets, fin, beg, inj, proj, head] <;> (intro hh; simp_all)
  | tw k p j a d => cases t <;> simp_all [meets, fin, beg, inj, proj, head] <;> (intro hh; simp_all)
theorem meets_E {s t : C} (h : nofl s) (e : fin s = beg t) (h1 : s ≠ .any) (h3 : head s = head t) (h4 : ∃ p g l u, t = .fl p g l u) : meets s t = true := by
  obtain ⟨p', g', l', u', rfl⟩ := h4
  cases s with
  | fl p g l u => exact absurd rfl (h p g l u)
  | any => exact absurd rfl h1
  | _ => simp_all [meets, fin, beg, inj, proj, head]
theorem heap_new3 (w : World) (x y z : Obj) : (((w.alloc x).alloc y).alloc z).heap[w.heap.size + 1 + 1]? = some z := by
  have h : ∀ (w : World) (o : Obj), (w.alloc o).heap[w.heap.size]? = some o := fun w o => by show (w.heap.push o)[w.heap.size]? = some o; simp
  have := h ((w.alloc x).alloc y) z
  simpa using this
end Cc
set_option maxHeartbeats 1600000 in
theorem couples_tw (k : K) (p : Int) (j : Bool) (a d : C) (q : Int) (i : Bool) (c e : C) (b o b' o' : Nat) (w : World) :
    Calls Tryz.prog 131 #[tv b o (.tw k p j a d), tv b' o' (.tw k q i c e)] w fun en w' => ∃ v, en = .returned v ∧
      Cp2 w w' (if t0 k then tv b' (o' + 7) c else tv b (o + 7) a) (if t0 k then tv b (o + 7) a else tv b' (o' + 7) c) (if t1 k then tv b' (o' + 7 + 7 * Cc.size c) e else tv b (o + 7 + 7 * Cc.size a) d) (if t1 k then tv b (o + 7 + 7 * Cc.size a) d else tv b' (o' + 7 + 7 * Cc.size c) e) v ∧ Below w.heap.size w w' := by
  obtain ⟨Ta, va, ea, -⟩ := tv_meth a b (o + 7)
  obtain ⟨Td, vd, ed, -⟩ := tv_meth d b (o + 7 + 7 * Cc.size a)
  obtain ⟨Tc, vc, ec, -⟩ := tv_meth c b' (o' + 7)
  obtain ⟨Te, ve, ee, -⟩ := tv_meth e b' (o' + 7 + 7 * Cc.size c)
  simp only [tv, ea, ed, ec, ee]
  clear ea ed ec ee
  have q1 := ta_function_function
  have q2 := ta_pair_function
  have q3 := ta_pair_pair
  have q4 := ta_box_function
  have q5 := ta_box_pair
  have q6 := ta_box_list
  have q7 := ta_box_box
  have hA : ∀ x y z, Below w.heap.size w (((w.alloc x).alloc y).alloc z) := fun x y z => (((Below.refl _ _).alloc (Nat.le_refl _) x).alloc (by simp) y).alloc (by simp; omega) z
  cases k <;> simp only [tyK, t0, t1, if_true, if_false, Bool.false_eq_true]
  all_goals
    go_enter Tryz.func131, Tryz.ntmps131
    go_wp2
    go_ret
    exact ⟨_, rfl, ⟨w.heap.size + 1 + 1, rfl, by omega, by simp, ⟨_, _, heap_new3 _ _ _ _⟩, by go_simp, by go_simp, by go_simp, by go_simp⟩, hA _ _ _⟩
set_option maxHeartbeats 1600000 in
theorem couples_ls (p : Int) (j : Bool) (a : C) (q : Int) (i : Bool) (c : C) (b o b' o' : Nat) (w : World) :
    Calls Tryz.prog 131 #[tv b o (.ls p j a), tv b' o' (.ls q i c)] w fun en w' => ∃ v, en = .returned v ∧
      Cp1 w w' (tv b (o + 7) a) (tv b' (o' + 7) c) v ∧ Below w.heap.size w w' := by
  obtain ⟨Ta, va, ea, -⟩ := tv_meth a b (o + 7)
  obtain ⟨Tc, vc, ec, -⟩ := tv_meth c b' (o' + 7)
  simp only [tv, ea, ec]
  clear ea ec
  have q1 := ta_list_function
  have q2 := ta_list_pair
  have q3 := ta_list_list
  have hA : ∀ x y z, Below w.heap.size w (((w.alloc x).alloc y).alloc z) := fun x y z => (((Below.refl _ _).alloc (Nat.le_refl _) x).alloc (by simp) y).alloc (by simp; omega) z
  go_enter Tryz.func131, Tryz.ntmps131
  go_wp2
  go_ret
  exact ⟨_, rfl, ⟨w.heap.size + 1 + 1, rfl, by omega, by simp, ⟨_, _, heap_new3 _ _ _ _⟩, by go_simp, by go_simp⟩, hA _ _ _⟩
set_option maxHeartbeats 1600000 in
theorem couples_bs (p : Int) (j : Bool) (g : H) (q : Int) (i : Bool) (g' : H) (b o b' o' : Nat) (w : World) :
    Calls Tryz.prog 131 #[tv b o (.bs p j g), tv b' o' (.bs q i g')] w fun en w' => en = .returned (.slice none 0 0) ∧ w' = w := by
  simp only [tv]
  have q1 := ta_base_function
  have q2 := ta_base_pair
  have q3 := ta_base_list
  have q4 := ta_base_box
  go_enter Tryz.func131, Tryz.ntmps131
  go_wp2
  go_ret
  exact ⟨rfl, rfl⟩
end Go.Proofs.YtkmoeflodafoeaaGreatDoor
namespace Go.Proofs.YtkmoeflodafoeaaGreatDoor
open Go.RowKit Cc
set_option maxRecDepth 100000
set_option linter.unusedSimpArgs false
set_option linter.unusedVariables false
theorem two_cells {w2 w3 w4 : World} {c1 c2 : Array Value} {t1 t2 : TypeId} (h3 : Below ((w2.alloc (.cells c1 t1)).alloc (.cells c2 t2)).heap.size ((w2.alloc (.cells c1 t1)).alloc (.cells c2 t2)) w3) (h4 : Below w3.heap.size w3 w4) :
    (∀ o u, c1[o]? = some u → w4.cell? ⟨w2.heap.size, o, none⟩ = some u) ∧ (∀ o u, c2[o]? = some u → w4.cell? ⟨w2.heap.size + 1, o, none⟩ = some u) := by
  have hz := h3.size
  simp at hz
  constructor
  · intro o u h
    refine (h4.cell (p := ⟨w2.heap.size, o, none⟩) (show w2.heap.size < _ by omega)).trans ((h3.cell (p := ⟨w2.heap.size, o, none⟩) (by simp; omega)).trans ?_)
    go_simp
  · intro o u h
    refine (h4.cell (p := ⟨w2.heap.size + 1, o, none⟩) (show w2.heap.size + 1 < _ by omega)).trans ((h3.cell (p := ⟨w2.heap.size + 1, o, none⟩) (by simp)).trans ?_)
    go_simp
theorem below_al2 {w w1 : World} (h : Below w.heap.size w w1) (x y : Obj) : Below w.heap.size w ((w1.alloc x).alloc y) := (h.alloc h.size x).alloc (by have := h.size; simp; omega) y
set_option maxHeartbeats 1600000 in
theorem meets_fl (s t : C) (b o b' o' : Nat) (w : World) (hs : Lie w b o s) (ht : Lie w b' o' t) (h7 : (nod s).op = 7) :
    Calls Tryz.prog 64 #[tv b o s, tv b' o' t] w fun e w' => e = .returned (.bool (meets s t)) ∧ Below w.heap.size w w' := by
  have HM : Aside (meets s t = true) := by
    obtain ⟨p, g, l, u, rfl⟩ := nod_fl.1 h7
    exact fl_meets _ _ _ _ _
  rw [HM.out]
  obtain ⟨Ts, vs, es, hms, -⟩ := tv_meth s b o
  obtain ⟨Tt, vt, et, hmt, -⟩ := tv_meth t b' o'
  have rs := root_at s b o w hs
  have rt := root_at t b' o' w ht
  rw [es, et]
  clear es et hs ht HM
  generalize nod s = x at *
  generalize nod t = y at *
  generalize Cc.size s = ns at *
  generalize Cc.size t = nt at *
  have hB := Below.refl w.heap.size w
  go_enter Tryz.func64, Tryz.ntmps64
  go_wp2_with (first | (go_at_call 249; refine (rs _ hB).mono ?_; rintro e w1 ⟨rfl, hB, -⟩; clear rs) | (go_at_call 249; refine (rt _ hB).mono ?_; rintro e w2 ⟨rfl, hB, -⟩; clear rt))
  go_ret
  exact ⟨rfl, below_al2 hB _ _⟩
set_option maxHeartbeats 3200000 in
theorem meets_low (s t : C) (b o b' o' : Nat) (w : World) (hs : Lie w b o s) (ht : Lie w b' o' t) (h7 : (nod s).op ≠ 7) (hl : fin s ≠ beg t ∨ (nod s).op = 1 ∨ (nod t).op = 1 ∨ (nod s).head ≠ (nod t).head ∨ (nod t).op = 7) :
    Calls Tryz.prog 64 #[tv b o s, tv b' o' t] w fun e w' => e = .returned (.bool (meets s t)) ∧ Below w.heap.size w w' := by
  have hnf : nofl s := fun p h l u e => h7 (nod_fl.2 ⟨p, h, l, u, e⟩)
  have HB : Aside (fin s ≠ beg t → meets s t = false) := meets_B hnf
  have HC : Aside (fin s = beg t → (nod s).op = 1 ∨ (nod t).op = 1 → meets s t = true) := fun e h => meets_C hnf e (h.imp nod_any.1 nod_any.1)
  have HD : Aside (fin s = beg t → (nod s).op ≠ 1 → (nod t).op ≠ 1 → (nod s).head ≠ (nod t).head → meets s t = fin s) := fun e h1 h2 h3 => by
    have g1 : s ≠ .any := fun h => h1 (nod_any.2 h)
    have g2 : t ≠ .any := fun h => h2 (nod_any.2 h)
    rw [nod_head g1, nod_head g2] at h3
    exact meets_D hnf e g1 g2 (fun h => h3 (by rw [h]))
  have HE : Aside (fin s = beg t → (nod s).op ≠ 1 → (nod t).op ≠ 1 → (nod s).head = (nod t).head → (nod t).op = 7 → meets s t = true) := fun e h1 h2 h3 h4 => by
    have g1 : s ≠ .any := fun h => h1 (nod_any.2 h)
    have g2 : t ≠ .any := fun h => h2 (nod_any.2 h)
    rw [nod_head g1, nod_head g2] at h3
    exact meets_E hnf e g1 (hB_inj h3) (nod_fl.1 h4)
  obtain ⟨Ts, vs, es, hms, -⟩ := tv_meth s b o
  obtain ⟨Tt, vt, et, hmt, -⟩ := tv_meth t b' o'
  have rs := root_at s b o w hs
  have rt := root_at t b' o' w ht
  have ce := ends_at s b o w hs
  have cb := begins_at t b' o' w ht
  rw [es] at ce ⊢
  rw [et] at cb ⊢
  clear es et hs ht hnf
  generalize fin s = fs at *
  generalize beg t = bt at *
  generalize meets s t = R at *
  generalize nod s = x at *
  generalize nod t = y at *
  generalize Cc.size s = ns at *
  generalize Cc.size t = nt at *
  have hB := Below.refl w.heap.size w
  have HL : Aside (fs ≠ bt ∨ x.op = 1 ∨ y.op = 1 ∨ x.head ≠ y.head ∨ y.op = 7) := hl
  clear hl
  go_enter Tryz.func64, Tryz.ntmps64
  go_wp2_with (first | (go_at_call 249; refine (rs _ hB).mono ?_; rintro e w1 ⟨rfl, hB, -⟩; clear rs) | (go_at_call 249; refine (rt _ hB).mono ?_; rintro e w2 ⟨rfl, hB, -⟩; clear rt) | (go_at_call 129; refine (ce _ (below_al2 hB _ _)).mono ?_; rintro e w3 ⟨rfl, hB, hB3⟩) | (go_at_call 130; refine (cb _ hB).mono ?_; rintro e w4 ⟨rfl, hB, hB4⟩; have e0 := (two_cells hB3 hB4).1 0 _ rfl; have e3 := (two_cells hB3 hB4).1 3 _ rfl; have f0 := (two_cells hB3 hB4).2 0 _ rfl; have f3 := (two_cells hB3 hB4).2 3 _ rfl; clear hB3 hB4 cb) | (go_at_call 129; refine (ce _ hB).mono ?_; rintro e w5 ⟨rfl, hB, -⟩))
  · go_ret
    exact ⟨ret_b (HB.out (by simp_all)).symm, hB⟩
  · go_ret
    exact ⟨ret_b (HC.out (by simp_all) (by simp_all)).symm, hB⟩
  · go_ret
    exact ⟨ret_b (HC.out (by simp_all) (by simp_all)).symm, hB⟩
  · go_ret
    exact ⟨ret_b (HD.out (by simp_all) (by simp_all) (by simp_all) (by simp_all)).symm, hB⟩
  · go_ret
    exact ⟨ret_b (HE.out (by simp_all) (by simp_all) (by simp_all) (by simp_all) (by simp_all)).symm, hB⟩
  · exfalso
    have := HL.out
    simp_all
end Go.Proofs.YtkmoeflodafoeaaGreatDoor
