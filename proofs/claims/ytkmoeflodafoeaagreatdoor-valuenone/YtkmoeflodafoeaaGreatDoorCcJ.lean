/- Package coerce: meets, where no kids are asked. -/
import Derived.Test.YtkmoeflodafoeaaGreatDoorCcI
namespace Go.Proofs.YtkmoeflodafoeaaGreatDoor
open Go.RowKit Cc
set_option maxRecDepth 100000
set_option linter.unusedSimpArgs false
set_option linter.unusedVariables false
theorem two_cells {w2 w3 w4 : World} {c1 c2 : Array Value} {t1 t2 : TypeId} (h3 : Below ((w2.alloc (.cells c1 t1)).alloc (.cells c2 t2)).heap.size ((w2.alloc (.cells c1 t1)).alloc (.cells c2 t2)) w3) (h4 : Below w3.heap.size w3 w4) :
    (∀ o u, c1[o]? = some u → w4.cell? ⟨w2.heap.size, o, none⟩ = some u) ∧ (∀ o u, c2[o]? = some u → w4.cell? ⟨w2.heap.size + 1, o, none⟩ = some u) := by
  have hz := h3.size
  simp at hz
  constructor
  · intro o u h
    refine (h4.cell (p := ⟨w2.heap.size, o, none⟩) (show w2.heap.size < _ by omega)).trans ((h3.cell (p := ⟨w2.heap.size, o, none⟩) (by simp; omega)).trans ?_)
    go_simp
  · intro o u h
    refine (h4.cell (p := ⟨w2.heap.size + 1, o, none⟩) (show w2.heap.size + 1 < _ by omega)).trans ((h3.cell (p := ⟨w2.heap.size + 1, o, none⟩) (by simp)).trans ?_)
    go_simp
theorem below_al2 {w w1 : World} (h : Below w.heap.size w w1) (x y : Obj) : Below w.heap.size w ((w1.alloc x).alloc y) := (h.alloc h.size x).alloc (by have := h.size; simp; omega) y
set_option maxHeartbeats 1600000 in
theorem meets_fl (s t : C) (b o b' o' : Nat) (w : World) (hs : Lie w b o s) (ht : Lie w b' o' t) (h7 : (nod s).op = 7) :
    Calls Tryz.prog 64 #[tv b o s, tv b' o' t] w fun e w' => e = .returned (.bool (meets s t)) ∧ Below w.heap.size w w' := by
  have HM : Aside (meets s t = true) := by
    obtain ⟨p, g, l, u, rfl⟩ := nod_fl.1 h7
    exact fl_meets _ _ _ _ _
  rw [HM.out]
  obtain ⟨Ts, vs, es, hms, -⟩ := tv_meth s b o
  obtain ⟨Tt, vt, et, hmt, -⟩ := tv_meth t b' o'
  have rs := root_at s b o w hs
  have rt := root_at t b' o' w ht
  rw [es, et]
  clear es et hs ht HM
  generalize nod s = x at *
  generalize nod t = y at *
  generalize Cc.size s = ns at *
  generalize Cc.size t = nt at *
  have hB := Below.refl w.heap.size w
  go_enter Tryz.func64, Tryz.ntmps64
  go_wp2_with (first | (go_at_call 249; refine (rs _ hB).mono ?_; rintro e w1 ⟨rfl, hB, -⟩; clear rs) | (go_at_call 249; refine (rt _ hB).mono ?_; rintro e w2 ⟨rfl, hB, -⟩; clear rt))
  go_ret
  exact ⟨rfl, below_al2 hB _ _⟩
set_option maxHeartbeats 3200000 in
theorem meets_low (s t : C) (b o b' o' : Nat) (w : World) (hs : Lie w b o s) (ht : Lie w b' o' t) (h7 : (nod s).op ≠ 7) (hl : fin s ≠ beg t ∨ (nod s).op = 1 ∨ (nod t).op = 1 ∨ (nod s).head ≠ (nod t).head ∨ (nod t).op = 7) :
    Calls Tryz.prog 64 #[tv b o s, tv b' o' t] w fun e w' => e = .returned (.bool (meets s t)) ∧ Below w.heap.size w w' := by
  have hnf : nofl s := fun p h l u e => h7 (nod_fl.2 ⟨p, h, l, u, e⟩)
  have HB : Aside (fin s ≠ beg t → meets s t = false) := meets_B hnf
  have HC : Aside (fin s = beg t → (nod s).op = 1 ∨ (nod t).op = 1 → meets s t = true) := fun e h => meets_C hnf e (h.imp nod_any.1 nod_any.1)
  have HD : Aside (fin s = beg t → (nod s).op ≠ 1 → (nod t).op ≠ 1 → (nod s).head ≠ (nod t).head → meets s t = fin s) := fun e h1 h2 h3 => by
    have g1 : s ≠ .any := fun h => h1 (nod_any.2 h)
    have g2 : t ≠ .any := fun h => h2 (nod_any.2 h)
    rw [nod_head g1, nod_head g2] at h3
    exact meets_D hnf e g1 g2 (fun h => h3 (by rw [h]))
  have HE : Aside (fin s = beg t → (nod s).op ≠ 1 → (nod t).op ≠ 1 → (nod s).head = (nod t).head → (nod t).op = 7 → meets s t = true) := fun e h1 h2 h3 h4 => by
    have g1 : s ≠ .any := fun h => h1 (nod_any.2 h)
    have g2 : t ≠ .any := fun h => h2 (nod_any.2 h)
    rw [nod_head g1, nod_head g2] at h3
    exact meets_E hnf e g1 (hB_inj h3) (nod_fl.1 h4)
  obtain ⟨Ts, vs, es, hms, -⟩ := tv_meth s b o
  obtain ⟨Tt, vt, et, hmt, -⟩ := tv_meth t b' o'
  have rs := root_at s b o w hs
  have rt := root_at t b' o' w ht
  have ce := ends_at s b o w hs
  have cb := begins_at t b' o' w ht
  rw [es] at ce ⊢
  rw [et] at cb ⊢
  clear es et hs ht hnf
  generalize fin s = fs at *
  generalize beg t = bt at *
  generalize meets s t = R at *
  generalize nod s = x at *
  generalize nod t = y at *
  generalize Cc.size s = ns at *
  generalize Cc.size t = nt at *
  have hB := Below.refl w.heap.size w
  have HL : Aside (fs ≠ bt ∨ x.op = 1 ∨ y.op = 1 ∨ x.head ≠ y.head ∨ y.op = 7) := hl
  clear hl
  go_enter Tryz.func64, Tryz.ntmps64
  go_wp2_with (first | (go_at_call 249; refine (rs _ hB).mono ?_; rintro e w1 ⟨rfl, hB, -⟩; clear rs) | (go_at_call 249; refine (rt _ hB).mono ?_; rintro e w2 ⟨rfl, hB, -⟩; clear rt) | (go_at_call 129; refine (ce _ (below_al2 hB _ _)).mono ?_; rintro e w3 ⟨rfl, hB, hB3⟩) | (go_at_call 130; refine (cb _ hB).mono ?_; rintro e w4 ⟨rfl, hB, hB4⟩; have e0 := (two_cells hB3 hB4).1 0 _ rfl; have e3 := (two_cells hB3 hB4).1 3 _ rfl; have f0 := (two_cells hB3 hB4).2 0 _ rfl; have f3 := (two_cells hB3 hB4).2 3 _ rfl; clear hB3 hB4 cb) | (go_at_call 129; refine (ce _ hB).mono ?_; rintro e w5 ⟨rfl, hB, -⟩))
  · go_ret
    exact ⟨ret_b (HB.out (by simp_all)).symm, hB⟩
  · go_ret
    exact ⟨ret_b (HC.out (by simp_all) (by simp_all)).symm, hB⟩
  · go_ret
    exact ⟨ret_b (HC.out (by simp_all) (by simp_all)).symm, hB⟩
  · go_ret
    exact ⟨ret_b (HD.out (by simp_all) (by simp_all) (by simp_all) (by simp_all)).symm, hB⟩
  · go_ret
    exact ⟨ret_b (HE.out (by simp_all) (by simp_all) (by simp_all) (by simp_all) (by simp_all)).symm, hB⟩
  · exfalso
    have := HL.out
    simp_all
end Go.Proofs.YtkmoeflodafoeaaGreatDoor
