/- Package coerce: goes. Package coerce: goes. -/
import Derived.Test.YtaaokecdmbmgbaaDoorUba
import Derived.Test.YtaaokecdmbmgbaaDoorUaz
import Derived.Deep.RegionWith
import Derived.Deep.RegionHeld3
import Derived.StillTailTactics
namespace Go.Proofs.YtaaokecdmbmgbaaDoor
open Go.RowKit Cc
set_option maxRecDepth 100000
set_option linter.unusedSimpArgs false
set_option linter.unusedVariables false
set_option maxHeartbeats 12800000 in
theorem goes_fn (n : Nat) (hT : GoC n) (p : Int) (j : Bool) (a d : C) (b o : Nat) (w : World) (f t : Ty) (hz : Cc.size a ≤ n) (hz2 : Cc.size d ≤ n) (hl : Lie w b o (.tw .fn p j a d)) (hf : (T3.Tp.enc f).length ≤ 64) (ht : (T3.Tp.enc t).length ≤ 64) :
    Calls Tryd.prog 44 #[tv b o (.tw .fn p j a d), .string (sT f), .string (sT t)] w fun e w' => e = .returned (.bool (goT (.tw .fn p j a d) f t)) ∧ Below w.heap.size w w' := by
  have hr := root_at (.tw .fn p j a d) b o w hl
  have cp1 := partsThere_two (p != 0) .fn (by decide) f hf w
  have cp2 := partsThere_two (j) .fn (by decide) t ht w
  have q0 := ta_function_function
  have ca := hT.at a b (o + 7) w (kd j 0 t) (kd (p != 0) 0 f) hz hl.tw.1 (kd_len ht) (kd_len hf)
  have cd := hT.at d b (o + 7 + 7 * Cc.size a) w (kd (p != 0) 1 f) (kd j 1 t) hz2 hl.tw.2 (kd_len hf) (kd_len ht)
  obtain ⟨T, v, e, hm, -⟩ := tv_meth (.tw .fn p j a d) b o
  obtain ⟨Ta, va, ea, -⟩ := tv_meth a b (o + 7)
  obtain ⟨Td, vd, ed, -⟩ := tv_meth d b (o + 7 + 7 * Cc.size a)
  rw [tv] at e ⊢
  simp only [ea, ed, tyK] at ca cd e ⊢
  injection e with e1 e2
  subst e1 e2
  simp only [nod, sh, shN, opK] at hr
  have hB := Below.refl w.heap.size w
  have HG : Aside (goT (.tw .fn p j a d) f t = (sideB (p != 0) (.tw .fn) f && (sideB j (.tw .fn) t && (goT a (kd j 0 t) (kd (p != 0) 0 f) && goT d (kd (p != 0) 1 f) (kd j 1 t))))) := rfl
  generalize goT (.tw .fn p j a d) f t = G at *
  generalize goT a (kd j 0 t) (kd (p != 0) 0 f) = I1 at *
  generalize goT d (kd (p != 0) 1 f) (kd j 1 t) = I2 at *
  generalize sideB (p != 0) (.tw .fn) f = B1 at *
  generalize sideB j (.tw .fn) t = B2 at *
  generalize sT (kd (p != 0) 0 f) = sa0 at *
  generalize sT (kd (p != 0) 1 f) = sa1 at *
  generalize sT (kd j 0 t) = sb0 at *
  generalize sT (kd j 1 t) = sb1 at *
  generalize sT f = sf at *
  generalize sT t = st at *
  simp only [Cc.hB] at cp1 cp2 hr
  clear hl ea ed hT
  cases B1
  · go_enter Tryd.func44, Tryd.ntmps44
    go_wp2_with (first | (go_at_call 128; refine (hr _ hB).mono ?_; rintro e w' ⟨rfl, hB, -⟩; have c0 : (w'.alloc (.cells #[.int .i8 3, .int .i64 p, .bool j, .int .u8 62, .int .i64 0, .int .u8 0, .int .u8 0] 29)).cell? ⟨w'.heap.size, 0, none⟩ = some (.int .i8 3) ∧ (w'.alloc (.cells #[.int .i8 3, .int .i64 p, .bool j, .int .u8 62, .int .i64 0, .int .u8 0, .int .u8 0] 29)).cell? ⟨w'.heap.size, 2, none⟩ = some (.bool j) ∧ (w'.alloc (.cells #[.int .i8 3, .int .i64 p, .bool j, .int .u8 62, .int .i64 0, .int .u8 0, .int .u8 0] 29)).cell? ⟨w'.heap.size, 3, none⟩ = some (.int .u8 62) ∧ w'.heap.size < (w'.alloc (.cells #[.int .i8 3, .int .i64 p, .bool j, .int .u8 62, .int .i64 0, .int .u8 0, .int .u8 0] 29)).heap.size := by simp) | (go_at_call 63; refine (cp1 _ (below_al hB hB.size _)).mono ?_; rintro e w2 ⟨v2, rfl, -, hB2, hB2'⟩; clear cp1))
    go_ret
    exact ⟨ret_b HG.out.symm, hB2⟩
  cases B2
  · go_enter Tryd.func44, Tryd.ntmps44
    go_wp2_with (first | (go_at_call 128; refine (hr _ hB).mono ?_; rintro e w' ⟨rfl, hB, -⟩; have c0 : (w'.alloc (.cells #[.int .i8 3, .int .i64 p, .bool j, .int .u8 62, .int .i64 0, .int .u8 0, .int .u8 0] 29)).cell? ⟨w'.heap.size, 0, none⟩ = some (.int .i8 3) ∧ (w'.alloc (.cells #[.int .i8 3, .int .i64 p, .bool j, .int .u8 62, .int .i64 0, .int .u8 0, .int .u8 0] 29)).cell? ⟨w'.heap.size, 2, none⟩ = some (.bool j) ∧ (w'.alloc (.cells #[.int .i8 3, .int .i64 p, .bool j, .int .u8 62, .int .i64 0, .int .u8 0, .int .u8 0] 29)).cell? ⟨w'.heap.size, 3, none⟩ = some (.int .u8 62) ∧ w'.heap.size < (w'.alloc (.cells #[.int .i8 3, .int .i64 p, .bool j, .int .u8 62, .int .i64 0, .int .u8 0, .int .u8 0] 29)).heap.size := by simp) | (go_at_call 63; refine (cp1 _ (below_al hB hB.size _)).mono ?_; rintro e w2 ⟨v2, rfl, hx2, hB2, hB2'⟩; obtain ⟨c0, c2, c3, c9⟩ := c0; have d0 := (hB2'.cell (p := ⟨w'.heap.size, 0, none⟩) c9).trans c0; have d2 := (hB2'.cell (p := ⟨w'.heap.size, 2, none⟩) c9).trans c2; have d3 := (hB2'.cell (p := ⟨w'.heap.size, 3, none⟩) c9).trans c3; clear cp1 hB2' c0 c2 c3 c9) | (go_at_call 63; refine (cp2 _ hB2).mono ?_; rintro e w3 ⟨v3, rfl, -, hB3, hB3'⟩; clear cp2))
    go_ret
    exact ⟨ret_b HG.out.symm, hB3⟩
  go_enter Tryd.func44, Tryd.ntmps44
  go_wp2_with (first | (go_at_call 128; refine (hr _ hB).mono ?_; rintro e w' ⟨rfl, hB, -⟩; have c0 : (w'.alloc (.cells #[.int .i8 3, .int .i64 p, .bool j, .int .u8 62, .int .i64 0, .int .u8 0, .int .u8 0] 29)).cell? ⟨w'.heap.size, 0, none⟩ = some (.int .i8 3) ∧ (w'.alloc (.cells #[.int .i8 3, .int .i64 p, .bool j, .int .u8 62, .int .i64 0, .int .u8 0, .int .u8 0] 29)).cell? ⟨w'.heap.size, 2, none⟩ = some (.bool j) ∧ (w'.alloc (.cells #[.int .i8 3, .int .i64 p, .bool j, .int .u8 62, .int .i64 0, .int .u8 0, .int .u8 0] 29)).cell? ⟨w'.heap.size, 3, none⟩ = some (.int .u8 62) ∧ w'.heap.size < (w'.alloc (.cells #[.int .i8 3, .int .i64 p, .bool j, .int .u8 62, .int .i64 0, .int .u8 0, .int .u8 0] 29)).heap.size := by simp) | (go_at_call 63; refine (cp1 _ (below_al hB hB.size _)).mono ?_; rintro e w2 ⟨v2, rfl, hx2, hB2, hB2'⟩; obtain ⟨g2, k2, rfl, hg2, x20, x21, xk2⟩ := hx2 trivial; obtain ⟨c0, c2, c3, c9⟩ := c0; have d0 := (hB2'.cell (p := ⟨w'.heap.size, 0, none⟩) c9).trans c0; have d2 := (hB2'.cell (p := ⟨w'.heap.size, 2, none⟩) c9).trans c2; have d3 := (hB2'.cell (p := ⟨w'.heap.size, 3, none⟩) c9).trans c3; clear cp1 hB2' c0 c2 c3 c9 hx2) | (go_at_call 63; refine (cp2 _ hB2).mono ?_; rintro e w3 ⟨v3, rfl, hx3, hB3, hB3'⟩; obtain ⟨g3, k3, rfl, hg3, x30, x31, xk3⟩ := hx3 trivial; have x20 := (hB3'.cell (p := ⟨g2, 0, none⟩) hg2).trans x20; have x21 := (hB3'.cell (p := ⟨g2, 1, none⟩) hg2).trans x21; have hg2 := Nat.lt_of_lt_of_le hg2 hB3'.size; clear cp2 d0 d2 d3 hx3 hB3'))
  obtain ⟨W1, hW1⟩ : ∃ W1, W1 = w3.alloc (.cells #[.slice (some ⟨b, o, none⟩) (Cc.size a + Cc.size d + 1) (Cc.size a + Cc.size d + 1), .iface Ta va, .iface Td vd] 94) := ⟨_, rfl⟩
  rw [← hW1]
  obtain ⟨KB, hKBe⟩ : ∃ KB, KB = w3.heap.size := ⟨_, rfl⟩
  rw [← hKBe]
  have hB1 : Below w3.heap.size w3 W1 := by rw [hW1]; exact below_al (Below.refl _ _) (Nat.le_refl _) _
  have hBw : Below w.heap.size w W1 := hB3.trans (hB1.mono hB3.size)
  have hs1 : W1.cell? ⟨KB, 1, none⟩ = some (.iface Ta va) ∧ W1.cell? ⟨KB, 2, none⟩ = some (.iface Td vd) ∧ W1.cell? ⟨g2, 0, none⟩ = some (.string sa0) ∧ W1.cell? ⟨g2, 1, none⟩ = some (.string sa1) ∧ W1.cell? ⟨g3, 0, none⟩ = some (.string sb0) ∧ W1.cell? ⟨g3, 1, none⟩ = some (.string sb1) := ⟨by rw [hW1, hKBe]; simp, by rw [hW1, hKBe]; simp, (hB1.cell (p := ⟨g2, 0, none⟩) hg2).trans x20, (hB1.cell (p := ⟨g2, 1, none⟩) hg2).trans x21, (hB1.cell (p := ⟨g3, 0, none⟩) hg3).trans x30, (hB1.cell (p := ⟨g3, 1, none⟩) hg3).trans x31⟩
  have hKB : KB < W1.heap.size := by rw [hW1, hKBe]; simp
  have hg2 := Nat.lt_of_lt_of_le hg2 hB1.size
  have hg3 := Nat.lt_of_lt_of_le hg3 hB1.size
  have hstep : ∀ W w' : World, Below W1.heap.size W1 W → Below W.heap.size W w' → (w'.cell? ⟨KB, 1, none⟩ = some (.iface Ta va) ∧ w'.cell? ⟨KB, 2, none⟩ = some (.iface Td vd) ∧ w'.cell? ⟨g2, 0, none⟩ = some (.string sa0) ∧ w'.cell? ⟨g2, 1, none⟩ = some (.string sa1) ∧ w'.cell? ⟨g3, 0, none⟩ = some (.string sb0) ∧ w'.cell? ⟨g3, 1, none⟩ = some (.string sb1)) ∧ Below W1.heap.size W1 w' := by
    intro W w' h1 h2
    have h3 := h1.trans (h2.mono h1.size)
    obtain ⟨s0, s1, s2, s3, s4, s5⟩ := hs1
    exact ⟨⟨(h3.cell (p := ⟨KB, 1, none⟩) hKB).trans s0, (h3.cell (p := ⟨KB, 2, none⟩) hKB).trans s1, (h3.cell (p := ⟨g2, 0, none⟩) hg2).trans s2, (h3.cell (p := ⟨g2, 1, none⟩) hg2).trans s3, (h3.cell (p := ⟨g3, 0, none⟩) hg3).trans s4, (h3.cell (p := ⟨g3, 1, none⟩) hg3).trans s5⟩, h3⟩
  have HBw : Aside (Below w.heap.size w W1) := hBw
  clear hW1 hKBe x20 x30 x21 x31 hB1 hB2 hB3 hB hr
  have hmix : Tryd.prog.follows .mixedOrders = true := by kernel_rfl
  have HFC : Aside (∀ W : World, Below W1.heap.size W1 W → (W.cell? ⟨KB, 1, none⟩ = some (.iface Ta va) ∧ W.cell? ⟨KB, 2, none⟩ = some (.iface Td vd) ∧ W.cell? ⟨g2, 0, none⟩ = some (.string sa0) ∧ W.cell? ⟨g2, 1, none⟩ = some (.string sa1) ∧ W.cell? ⟨g3, 0, none⟩ = some (.string sb0) ∧ W.cell? ⟨g3, 1, none⟩ = some (.string sb1))) := fun W h => (hstep W W h (Below.refl _ _)).1
  have x0 : ∀ x : Cls (fun W => Below W1.heap.size W1 W), x.w.cell? ⟨KB, 1, none⟩ = some (.iface Ta va) := fun x => (HFC.out x.w x.h).1
  have x1 : ∀ x : Cls (fun W => Below W1.heap.size W1 W), x.w.cell? ⟨KB, 2, none⟩ = some (.iface Td vd) := fun x => (HFC.out x.w x.h).2.1
  have x2 : ∀ x : Cls (fun W => Below W1.heap.size W1 W), x.w.cell? ⟨g2, 0, none⟩ = some (.string sa0) := fun x => (HFC.out x.w x.h).2.2.1
  have x3 : ∀ x : Cls (fun W => Below W1.heap.size W1 W), x.w.cell? ⟨g2, 1, none⟩ = some (.string sa1) := fun x => (HFC.out x.w x.h).2.2.2.1
  have x4 : ∀ x : Cls (fun W => Below W1.heap.size W1 W), x.w.cell? ⟨g3, 0, none⟩ = some (.string sb0) := fun x => (HFC.out x.w x.h).2.2.2.2.1
  have x5 : ∀ x : Cls (fun W => Below W1.heap.size W1 W), x.w.cell? ⟨g3, 1, none⟩ = some (.string sb1) := fun x => (HFC.out x.w x.h).2.2.2.2.2
  have ca' : ∀ W, Below W1.heap.size W1 W → Calls Tryd.prog 44 #[.iface Ta va, .string sb0, .string sa0] W fun e w' => e = .returned (.bool I1) ∧ Below W1.heap.size W1 w' := fun W hW => by
    refine (ca W (HBw.out.trans (hW.mono HBw.out.size))).mono ?_
    rintro e w' ⟨rfl, -, h⟩
    exact ⟨rfl, hW.trans (h.mono hW.size)⟩
  have cd' : ∀ W, Below W1.heap.size W1 W → Calls Tryd.prog 44 #[.iface Td vd, .string sa1, .string sb1] W fun e w' => e = .returned (.bool I2) ∧ Below W1.heap.size W1 w' := fun W hW => by
    refine (cd W (HBw.out.trans (hW.mono HBw.out.size))).mono ?_
    rintro e w' ⟨rfl, -, h⟩
    exact ⟨rfl, hW.trans (h.mono hW.size)⟩
  clear ca cd hstep hs1 HFC
  cases I1
  all_goals
    have hne9 : Nonempty (Cls (fun W => Below W1.heap.size W1 W)) := ⟨⟨W1, Below.refl _ _⟩⟩
    refine wp_region_calm (fun W => Below W1.heap.size W1 W) hmix (by kernel_rfl) (Below.refl _ _).drew ?_
    repeat (go_big_quiet_step (first | (go_at_call 44; with_reducible exact calls_calm (ca' _ (Cls.h _))) | (go_at_call 44; with_reducible exact calls_calm (cd' _ (Cls.h _)))))
    refine wpQuiet_nil ?_
    rintro _ ⟨x, rfl⟩
    have hB4 := x.h
    generalize x.w = w4 at *
    go_wp2_with fail
    go_ret
    exact ⟨ret_b HG.out.symm, HBw.out.trans (hB4.mono HBw.out.size)⟩
end Go.Proofs.YtaaokecdmbmgbaaDoor
namespace Go.Proofs.YtaaokecdmbmgbaaDoor
open Go.RowKit Cc
set_option maxRecDepth 100000
set_option linter.unusedSimpArgs false
set_option linter.unusedVariables false
set_option maxHeartbeats 12800000 in
theorem goes_bx (n : Nat) (hT : GoC n) (p : Int) (j : Bool) (a d : C) (b o : Nat) (w : World) (f t : Ty) (hz : Cc.size a ≤ n) (hz2 : Cc.size d ≤ n) (hl : Lie w b o (.tw .bx p j a d)) (hf : (T3.Tp.enc f).length ≤ 64) (ht : (T3.Tp.enc t).length ≤ 64) :
    Calls Tryd.prog 44 #[tv b o (.tw .bx p j a d), .string (sT f), .string (sT t)] w fun e w' => e = .returned (.bool (goT (.tw .bx p j a d) f t)) ∧ Below w.heap.size w w' := by
  have hr := root_at (.tw .bx p j a d) b o w hl
  have cp1 := partsThere_one (p != 0) (.tw .bx) (.inr rfl) f hf w
  have cp2 := partsThere_one (j) (.tw .bx) (.inr rfl) t ht w
  have q0 := ta_box_function
  have q1 := ta_box_pair
  have q2 := ta_box_list
  have q3 := ta_box_box
  have ca := hT.at a b (o + 7) w (kd (p != 0) 0 f) (kd j 0 t) hz hl.tw.1 (kd_len hf) (kd_len ht)
  have cd := hT.at d b (o + 7 + 7 * Cc.size a) w (kd j 0 t) (kd (p != 0) 0 f) hz2 hl.tw.2 (kd_len ht) (kd_len hf)
  obtain ⟨T, v, e, hm, -⟩ := tv_meth (.tw .bx p j a d) b o
  obtain ⟨Ta, va, ea, -⟩ := tv_meth a b (o + 7)
  obtain ⟨Td, vd, ed, -⟩ := tv_meth d b (o + 7 + 7 * Cc.size a)
  rw [tv] at e ⊢
  simp only [ea, ed, tyK] at ca cd e ⊢
  injection e with e1 e2
  subst e1 e2
  simp only [nod, sh, shN, opK] at hr
  have hB := Below.refl w.heap.size w
  have HG : Aside (goT (.tw .bx p j a d) f t = (sideB (p != 0) (.tw .bx) f && (sideB j (.tw .bx) t && (goT a (kd (p != 0) 0 f) (kd j 0 t) && goT d (kd j 0 t) (kd (p != 0) 0 f))))) := rfl
  generalize goT (.tw .bx p j a d) f t = G at *
  generalize goT a (kd (p != 0) 0 f) (kd j 0 t) = I1 at *
  generalize goT d (kd j 0 t) (kd (p != 0) 0 f) = I2 at *
  generalize sideB (p != 0) (.tw .bx) f = B1 at *
  generalize sideB j (.tw .bx) t = B2 at *
  generalize sT (kd (p != 0) 0 f) = sa0 at *
  generalize sT (kd j 0 t) = sb0 at *
  generalize sT f = sf at *
  generalize sT t = st at *
  simp only [Cc.hB] at cp1 cp2 hr
  clear hl ea ed hT
  cases B1
  · go_enter Tryd.func44, Tryd.ntmps44
    go_wp2_with (first | (go_at_call 128; refine (hr _ hB).mono ?_; rintro e w' ⟨rfl, hB, -⟩; have c0 : (w'.alloc (.cells #[.int .i8 6, .int .i64 p, .bool j, .int .u8 120, .int .i64 0, .int .u8 0, .int .u8 0] 29)).cell? ⟨w'.heap.size, 0, none⟩ = some (.int .i8 6) ∧ (w'.alloc (.cells #[.int .i8 6, .int .i64 p, .bool j, .int .u8 120, .int .i64 0, .int .u8 0, .int .u8 0] 29)).cell? ⟨w'.heap.size, 2, none⟩ = some (.bool j) ∧ (w'.alloc (.cells #[.int .i8 6, .int .i64 p, .bool j, .int .u8 120, .int .i64 0, .int .u8 0, .int .u8 0] 29)).cell? ⟨w'.heap.size, 3, none⟩ = some (.int .u8 120) ∧ w'.heap.size < (w'.alloc (.cells #[.int .i8 6, .int .i64 p, .bool j, .int .u8 120, .int .i64 0, .int .u8 0, .int .u8 0] 29)).heap.size := by simp) | (go_at_call 63; refine (cp1 _ (below_al hB hB.size _)).mono ?_; rintro e w2 ⟨v2, rfl, -, hB2, hB2'⟩; clear cp1))
    go_ret
    exact ⟨ret_b HG.out.symm, hB2⟩
  cases B2
  · go_enter Tryd.func44, Tryd.ntmps44
    go_wp2_with (first | (go_at_call 128; refine (hr _ hB).mono ?_; rintro e w' ⟨rfl, hB, -⟩; have c0 : (w'.alloc (.cells #[.int .i8 6, .int .i64 p, .bool j, .int .u8 120, .int .i64 0, .int .u8 0, .int .u8 0] 29)).cell? ⟨w'.heap.size, 0, none⟩ = some (.int .i8 6) ∧ (w'.alloc (.cells #[.int .i8 6, .int .i64 p, .bool j, .int .u8 120, .int .i64 0, .int .u8 0, .int .u8 0] 29)).cell? ⟨w'.heap.size, 2, none⟩ = some (.bool j) ∧ (w'.alloc (.cells #[.int .i8 6, .int .i64 p, .bool j, .int .u8 120, .int .i64 0, .int .u8 0, .int .u8 0] 29)).cell? ⟨w'.heap.size, 3, none⟩ = some (.int .u8 120) ∧ w'.heap.size < (w'.alloc (.cells #[.int .i8 6, .int .i64 p, .bool j, .int .u8 120, .int .i64 0, .int .u8 0, .int .u8 0] 29)).heap.size := by simp) | (go_at_call 63; refine (cp1 _ (below_al hB hB.size _)).mono ?_; rintro e w2 ⟨v2, rfl, hx2, hB2, hB2'⟩; obtain ⟨c0, c2, c3, c9⟩ := c0; have d0 := (hB2'.cell (p := ⟨w'.heap.size, 0, none⟩) c9).trans c0; have d2 := (hB2'.cell (p := ⟨w'.heap.size, 2, none⟩) c9).trans c2; have d3 := (hB2'.cell (p := ⟨w'.heap.size, 3, none⟩) c9).trans c3; clear cp1 hB2' c0 c2 c3 c9) | (go_at_call 63; refine (cp2 _ hB2).mono ?_; rintro e w3 ⟨v3, rfl, -, hB3, hB3'⟩; clear cp2))
    go_ret
    exact ⟨ret_b HG.out.symm, hB3⟩
  go_enter Tryd.func44, Tryd.ntmps44
  go_wp2_with (first | (go_at_call 128; refine (hr _ hB).mono ?_; rintro e w' ⟨rfl, hB, -⟩; have c0 : (w'.alloc (.cells #[.int .i8 6, .int .i64 p, .bool j, .int .u8 120, .int .i64 0, .int .u8 0, .int .u8 0] 29)).cell? ⟨w'.heap.size, 0, none⟩ = some (.int .i8 6) ∧ (w'.alloc (.cells #[.int .i8 6, .int .i64 p, .bool j, .int .u8 120, .int .i64 0, .int .u8 0, .int .u8 0] 29)).cell? ⟨w'.heap.size, 2, none⟩ = some (.bool j) ∧ (w'.alloc (.cells #[.int .i8 6, .int .i64 p, .bool j, .int .u8 120, .int .i64 0, .int .u8 0, .int .u8 0] 29)).cell? ⟨w'.heap.size, 3, none⟩ = some (.int .u8 120) ∧ w'.heap.size < (w'.alloc (.cells #[.int .i8 6, .int .i64 p, .bool j, .int .u8 120, .int .i64 0, .int .u8 0, .int .u8 0] 29)).heap.size := by simp) | (go_at_call 63; refine (cp1 _ (below_al hB hB.size _)).mono ?_; rintro e w2 ⟨v2, rfl, hx2, hB2, hB2'⟩; obtain ⟨g2, k2, rfl, hg2, x20, xk2⟩ := hx2 trivial; obtain ⟨c0, c2, c3, c9⟩ := c0; have d0 := (hB2'.cell (p := ⟨w'.heap.size, 0, none⟩) c9).trans c0; have d2 := (hB2'.cell (p := ⟨w'.heap.size, 2, none⟩) c9).trans c2; have d3 := (hB2'.cell (p := ⟨w'.heap.size, 3, none⟩) c9).trans c3; clear cp1 hB2' c0 c2 c3 c9 hx2) | (go_at_call 63; refine (cp2 _ hB2).mono ?_; rintro e w3 ⟨v3, rfl, hx3, hB3, hB3'⟩; obtain ⟨g3, k3, rfl, hg3, x30, xk3⟩ := hx3 trivial; have x20 := (hB3'.cell (p := ⟨g2, 0, none⟩) hg2).trans x20; have hg2 := Nat.lt_of_lt_of_le hg2 hB3'.size; clear cp2 d0 d2 d3 hx3 hB3'))
  obtain ⟨W1, hW1⟩ : ∃ W1, W1 = w3.alloc (.cells #[.slice (some ⟨b, o, none⟩) (Cc.size a + Cc.size d + 1) (Cc.size a + Cc.size d + 1), .iface Ta va, .iface Td vd] 100) := ⟨_, rfl⟩
  rw [← hW1]
  obtain ⟨KB, hKBe⟩ : ∃ KB, KB = w3.heap.size := ⟨_, rfl⟩
  rw [← hKBe]
  have hB1 : Below w3.heap.size w3 W1 := by rw [hW1]; exact below_al (Below.refl _ _) (Nat.le_refl _) _
  have hBw : Below w.heap.size w W1 := hB3.trans (hB1.mono hB3.size)
  have hs1 : W1.cell? ⟨KB, 1, none⟩ = some (.iface Ta va) ∧ W1.cell? ⟨KB, 2, none⟩ = some (.iface Td vd) ∧ W1.cell? ⟨g2, 0, none⟩ = some (.string sa0) ∧ W1.cell? ⟨g3, 0, none⟩ = some (.string sb0) := ⟨by rw [hW1, hKBe]; simp, by rw [hW1, hKBe]; simp, (hB1.cell (p := ⟨g2, 0, none⟩) hg2).trans x20, (hB1.cell (p := ⟨g3, 0, none⟩) hg3).trans x30⟩
  have hKB : KB < W1.heap.size := by rw [hW1, hKBe]; simp
  have hg2 := Nat.lt_of_lt_of_le hg2 hB1.size
  have hg3 := Nat.lt_of_lt_of_le hg3 hB1.size
  have hstep : ∀ W w' : World, Below W1.heap.size W1 W → Below W.heap.size W w' → (w'.cell? ⟨KB, 1, none⟩ = some (.iface Ta va) ∧ w'.cell? ⟨KB, 2, none⟩ = some (.iface Td vd) ∧ w'.cell? ⟨g2, 0, none⟩ = some (.string sa0) ∧ w'.cell? ⟨g3, 0, none⟩ = some (.string sb0)) ∧ Below W1.heap.size W1 w' := by
    intro W w' h1 h2
    have h3 := h1.trans (h2.mono h1.size)
    obtain ⟨s0, s1, s2, s3⟩ := hs1
    exact ⟨⟨(h3.cell (p := ⟨KB, 1, none⟩) hKB).trans s0, (h3.cell (p := ⟨KB, 2, none⟩) hKB).trans s1, (h3.cell (p := ⟨g2, 0, none⟩) hg2).trans s2, (h3.cell (p := ⟨g3, 0, none⟩) hg3).trans s3⟩, h3⟩
  have HBw : Aside (Below w.heap.size w W1) := hBw
  clear hW1 hKBe x20 x30  hB1 hB2 hB3 hB hr
  have hmix : Tryd.prog.follows .mixedOrders = true := by kernel_rfl
  have HFC : Aside (∀ W : World, Below W1.heap.size W1 W → (W.cell? ⟨KB, 1, none⟩ = some (.iface Ta va) ∧ W.cell? ⟨KB, 2, none⟩ = some (.iface Td vd) ∧ W.cell? ⟨g2, 0, none⟩ = some (.string sa0) ∧ W.cell? ⟨g3, 0, none⟩ = some (.string sb0))) := fun W h => (hstep W W h (Below.refl _ _)).1
  have x0 : ∀ x : Cls (fun W => Below W1.heap.size W1 W), x.w.cell? ⟨KB, 1, none⟩ = some (.iface Ta va) := fun x => (HFC.out x.w x.h).1
  have x1 : ∀ x : Cls (fun W => Below W1.heap.size W1 W), x.w.cell? ⟨KB, 2, none⟩ = some (.iface Td vd) := fun x => (HFC.out x.w x.h).2.1
  have x2 : ∀ x : Cls (fun W => Below W1.heap.size W1 W), x.w.cell? ⟨g2, 0, none⟩ = some (.string sa0) := fun x => (HFC.out x.w x.h).2.2.1
  have x3 : ∀ x : Cls (fun W => Below W1.heap.size W1 W), x.w.cell? ⟨g3, 0, none⟩ = some (.string sb0) := fun x => (HFC.out x.w x.h).2.2.2
  have ca' : ∀ W, Below W1.heap.size W1 W → Calls Tryd.prog 44 #[.iface Ta va, .string sa0, .string sb0] W fun e w' => e = .returned (.bool I1) ∧ Below W1.heap.size W1 w' := fun W hW => by
    refine (ca W (HBw.out.trans (hW.mono HBw.out.size))).mono ?_
    rintro e w' ⟨rfl, -, h⟩
    exact ⟨rfl, hW.trans (h.mono hW.size)⟩
  have cd' : ∀ W, Below W1.heap.size W1 W → Calls Tryd.prog 44 #[.iface Td vd, .string sb0, .string sa0] W fun e w' => e = .returned (.bool I2) ∧ Below W1.heap.size W1 w' := fun W hW => by
    refine (cd W (HBw.out.trans (hW.mono HBw.out.size))).mono ?_
    rintro e w' ⟨rfl, -, h⟩
    exact ⟨rfl, hW.trans (h.mono hW.size)⟩
  clear ca cd hstep hs1 HFC
  cases I1
  all_goals
    have hne9 : Nonempty (Cls (fun W => Below W1.heap.size W1 W)) := ⟨⟨W1, Below.refl _ _⟩⟩
    refine wp_region_calm (fun W => Below W1.heap.size W1 W) hmix (by kernel_rfl) (Below.refl _ _).drew ?_
    repeat (go_big_quiet_step (first | (go_at_call 44; with_reducible exact calls_calm (ca' _ (Cls.h _))) | (go_at_call 44; with_reducible exact calls_calm (cd' _ (Cls.h _)))))
    refine wpQuiet_nil ?_
    rintro _ ⟨x, rfl⟩
    have hB4 := x.h
    generalize x.w = w4 at *
    go_wp2_with fail
    go_ret
    exact ⟨ret_b HG.out.symm, HBw.out.trans (hB4.mono HBw.out.size)⟩
end Go.Proofs.YtaaokecdmbmgbaaDoor
