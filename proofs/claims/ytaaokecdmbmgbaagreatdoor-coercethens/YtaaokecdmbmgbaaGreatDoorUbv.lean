/- CoerceThens, the law's own walk: both lists are read. -/
import Derived.Test.YtaaokecdmbmgbaaGreatDoorUbr
namespace Go.Proofs.YtaaokecdmbmgbaaGreatDoor
open Go.RowKit Cc
set_option maxRecDepth 100000
set_option linter.unusedSimpArgs false
set_option linter.unusedVariables false
set_option maxHeartbeats 6400000 in
theorem thens_b (ls lt : List N) (c d : C) (vs vt : Value) (w : World) (h1 : IsCos w vs ls) (h2 : IsCos w vt lt) (hl1 : ls.length ≤ 16384) (hl2 : lt.length ≤ 16384) (hn : Cc.whole ls = some c) (hq : Cc.whole lt = some d) :
    Calls Tryz.prog 3 #[vs, vt] w fun e w' => e = .returned (.bool true) ∧ Below w.heap.size w w' := by
  obtain ⟨sa, sc, rfl⟩ := h1.form
  obtain ⟨ta, tc, rfl⟩ := h2.form
  have cl1 := longT_any sa ls.length sc
  rw [decide_eq_false (by omega)] at cl1
  have cl2 := longT_any ta lt.length tc
  rw [decide_eq_false (by omega)] at cl2
  have HWk : Aside (∀ W, Below w.heap.size w W → Calls Tryz.prog 6 #[] W fun e w' => e = .returned (.bool true) ∧ Below w.heap.size w w') := worksT_at w
  have cW1 := wideCos_any ls (by omega) _ w h1
  have cW2 : ∀ W, Below w.heap.size w W → Calls Tryz.prog 7 #[.slice ta lt.length tc] W fun e w' => e = .returned (.slice (some ⟨W.heap.size, 0, none⟩) lt.length (lt.length + 64)) ∧ Wide w' W.heap.size lt ∧ Below W.heap.size W w' := fun W hW => wideCos_any lt (by omega) _ W (h2.below hW)
  have cR1 : ∀ W, Below w.heap.size w W → Calls Tryz.prog 8 #[.slice sa ls.length sc] W fun e w' => RrEnd W (Cc.whole ls) e w' ∧ Below W.heap.size W w' := fun W hW => dRead_any ls _ W (h1.below hW) (by omega)
  have cR2 : ∀ W, Below w.heap.size w W → Calls Tryz.prog 8 #[.slice ta lt.length tc] W fun e w' => RrEnd W (Cc.whole lt) e w' ∧ Below W.heap.size W w' := fun W hW => dRead_any lt _ W (h2.below hW) (by omega)
  have hLz : (tnL (Cc.whole ls) (Cc.whole lt)).length ≤ 40000 := by have := tnL_len (ls := ls) (lt := lt); omega
  have HTh : Aside (∀ W va vb, IsCos W va ls → IsCos W vb lt → Calls Tryz.prog 10 #[va, vb] W fun e w' => ∃ p c, e = .returned (.tuple #[.slice p (tnL (Cc.whole ls) (Cc.whole lt)).length c, .int .i64 (tnE (Cc.whole ls) (Cc.whole lt))]) ∧ Own W w' (.slice p (tnL (Cc.whole ls) (Cc.whole lt)).length c) (tnL (Cc.whole ls) (Cc.whole lt)) ∧ Below W.heap.size W w') := fun W va vb ha hb =>
    (Then_any ls lt va vb W ha hb (by omega) (by omega)).mono (by rintro e w' ⟨hE, hB⟩; obtain ⟨p, c, rfl, hO⟩ := tn_open hE; exact ⟨p, c, rfl, hO, hB⟩)
  have HTd : Aside (∀ W va vb, IsCos W va ls → IsCos W vb lt → Calls Tryz.prog 11 #[va, vb] W fun e w' => ∃ p c, e = .returned (.tuple #[.slice p (tnL (Cc.whole ls) (Cc.whole lt)).length c, .int .i64 (tnE (Cc.whole ls) (Cc.whole lt))]) ∧ Own W w' (.slice p (tnL (Cc.whole ls) (Cc.whole lt)).length c) (tnL (Cc.whole ls) (Cc.whole lt)) ∧ Below W.heap.size W w') := fun W va vb ha hb =>
    (dThen_any ls lt va vb W ha hb (by omega) (by omega)).mono (by rintro e w' ⟨hE, hB⟩; obtain ⟨p, c, rfl, hO⟩ := tn_open hE; exact ⟨p, c, rfl, hO, hB⟩)
  have HMe : Aside (∀ W va vb, IsCos W va ls → IsCos W vb lt → Calls Tryz.prog 12 #[va, vb] W fun e w' => e = .returned (.bool (meet2 (Cc.whole ls) (Cc.whole lt))) ∧ Below W.heap.size W w') := fun W va vb ha hb => Meet_any ls lt va vb W ha hb (by omega) (by omega)
  have HEq : Aside (∀ (l : List N) W v v', l.length ≤ 1000000 → IsCos W v l → IsCos W v' l → Calls Tryz.prog 13 #[v, v'] W fun e w' => e = .returned (.bool true) ∧ Below W.heap.size W w') := fun l W v v' hl hv hv' => by
    refine (eqCos_any l l v v' W hv hv' hl hl).mono ?_
    rintro e w' ⟨rfl, hB⟩
    exact ⟨ret_b (by simp), hB⟩
  have HSa : Aside (∀ W g, Wide W g ls → Calls Tryz.prog 16 #[.slice (some ⟨g, 0, none⟩) ls.length (ls.length + 64)] W fun e w' => e = .returned (.bool true) ∧ Below W.heap.size W w') := fun W g hv => spareCos_any ls (by omega) g W hv
  have HSb : Aside (∀ W g, Wide W g lt → Calls Tryz.prog 16 #[.slice (some ⟨g, 0, none⟩) lt.length (lt.length + 64)] W fun e w' => e = .returned (.bool true) ∧ Below W.heap.size W w') := fun W g hv => spareCos_any lt (by omega) g W hv
  have HI1 : Aside (∀ W, Below w.heap.size w W → IsCos W (.slice sa ls.length sc) ls) := fun W hW => h1.below hW
  have HI2 : Aside (∀ W, Below w.heap.size w W → IsCos W (.slice ta lt.length tc) lt) := fun W hW => h2.below hW
  have HC1 : Aside (∀ W g, Wide W g ls → IsCos W (.slice (some ⟨g, 0, none⟩) ls.length (ls.length + 64)) ls) := fun W g h => h.cos
  have HC2 : Aside (∀ W g, Wide W g lt → IsCos W (.slice (some ⟨g, 0, none⟩) lt.length (lt.length + 64)) lt) := fun W g h => h.cos
  have HZ1 : Aside (ls.length ≤ 16384) := hl1
  have HZ2 : Aside (lt.length ≤ 16384) := hl2
  have CM := fun (vs vt : Value) (W : World) (h2 : DT2 W c d vs vt) => dMeets_any c d vs vt W (whole_iff.1 hn).2.1.1 (whole_iff.1 hq).2.1.1 h2
  have HCM : Aside (∀ (vs vt : Value) (W : World), DT2 W c d vs vt → Calls Tryz.prog 9 #[tree (nod c) vs, tree (nod d) vt] W fun e w' => e = .returned (.bool (meets c d)) ∧ Below W.heap.size W w') := CM
  clear CM
  rw [hn] at cR1 HMe
  rw [hq] at cR2 HMe
  simp only [meet2] at HMe
  generalize meets c d = M at *
  have hMM : (M != M) = false := by simp
  clear hn hq
  clear h1 h2 hl1 hl2
  generalize tnL (Cc.whole ls) (Cc.whole lt) = L at *
  generalize tnE (Cc.whole ls) (Cc.whole lt) = E at *
  have HLn : Aside (L.length ≤ 40000) := hLz
  clear hLz
  have hEE : (E != E) = false := by simp
  go_enter Tryz.func3, Tryz.ntmps3
  go_wp2_with (first | (go_at_call 5; with_reducible refine (cl1 _).mono ?_; rintro e w1 ⟨rfl, hw1⟩; replace hw1 := hw1.symm; subst hw1; clear cl1) | (go_at_call 5; with_reducible refine (cl2 _).mono ?_; rintro e w1 ⟨rfl, hw1⟩; replace hw1 := hw1.symm; subst hw1; clear cl2))
  refine cW1.mono ?_
  rintro e w2 ⟨rfl, hW2, hB2⟩
  have HWa : Aside (Wide w2 w.heap.size ls) := hW2
  clear cW1 hW2
  go_wp2_with fail
  refine (cW2 _ hB2).mono ?_
  rintro e w3 ⟨rfl, hW3, hB3⟩
  have HWb : Aside (Wide w3 w2.heap.size lt) := hW3
  have HWa : Aside (Wide w3 w.heap.size ls) := HWa.out.below hB3
  have hB : Below w.heap.size w w3 := hB2.trans (hB3.mono hB2.size)
  clear cW2 hW3 hB2 hB3
  generalize w2.heap.size = gb at *
  go_wp2_with fail
  refine (cR1 _ hB).mono ?_
  rintro e w4 ⟨⟨kv, rfl, hd⟩, hB4⟩
  obtain ⟨xa, xn, xc, rfl⟩ := hd.form
  have HD1 : Aside (DT w4 w3.heap.size w4.heap.size c (.slice xa xn xc)) := hd
  clear hd
  obtain ⟨tn, htn⟩ : ∃ tn, tn = nod c := ⟨_, rfl⟩
  rw [← htn]
  have HN1 : Aside (tn = nod c) := htn
  clear htn
  have HWa : Aside (Wide w4 w.heap.size ls) := HWa.out.below hB4
  have HWb : Aside (Wide w4 gb lt) := HWb.out.below hB4
  replace hB : Below w.heap.size w w4 := hB.trans (hB4.mono hB.size)
  clear hB4
  obtain ⟨w5, hw5⟩ : ∃ w5, w5 = w4.alloc (.cells #[.int .i8 tn.op, .int .i64 tn.proj, .bool tn.inj, .int .u8 tn.head, .int .i64 tn.label, .int .u8 tn.frm, .int .u8 tn.tto, .slice xa xn xc] 31) := ⟨_, rfl⟩
  have hBw5 : Below w4.heap.size w4 w5 := by rw [hw5]; exact (Below.refl _ _).alloc (Nat.le_refl _) _
  go_wp2_with fail
  rw [← hw5]
  have HWa : Aside (Wide w5 w.heap.size ls) := HWa.out.below hBw5
  have HWb : Aside (Wide w5 gb lt) := HWb.out.below hBw5
  replace hB : Below w.heap.size w w5 := hB.trans (hBw5.mono hB.size)
  have H6 : Aside (w5.heap[w4.heap.size]? = some (.cells (tcells tn (.slice xa xn xc)) 31 (0, 0))) := by rw [hw5]; exact top8 rfl
  have HB5 : Aside (Below w4.heap.size w4 w5) := hBw5
  clear hw5 hBw5
  refine (cR2 _ hB).mono ?_
  rintro e w6 ⟨⟨kv2, rfl, hd2⟩, hB6⟩
  obtain ⟨ya, yn, yc, rfl⟩ := hd2.form
  have HD2 : Aside (DT w6 w5.heap.size w6.heap.size d (.slice ya yn yc)) := hd2
  obtain ⟨un, hun⟩ : ∃ un, un = nod d := ⟨_, rfl⟩
  rw [← hun]
  have HN2 : Aside (un = nod d) := hun
  clear hd2 hun
  have H6 : Aside (w6.heap[w4.heap.size]? = some (.cells (tcells tn (.slice xa xn xc)) 31 (0, 0))) := keep8 H6.out hB6
  have HB6 : Aside (Below w5.heap.size w5 w6) := hB6
  have HWa : Aside (Wide w6 w.heap.size ls) := HWa.out.below hB6
  have HWb : Aside (Wide w6 gb lt) := HWb.out.below hB6
  replace hB : Below w.heap.size w w6 := hB.trans (hB6.mono hB.size)
  clear hB6
  obtain ⟨w7, hw7⟩ : ∃ w7, w7 = w6.alloc (.cells #[.int .i8 un.op, .int .i64 un.proj, .bool un.inj, .int .u8 un.head, .int .i64 un.label, .int .u8 un.frm, .int .u8 un.tto, .slice ya yn yc] 31) := ⟨_, rfl⟩
  have hBw7 : Below w6.heap.size w6 w7 := by rw [hw7]; exact (Below.refl _ _).alloc (Nat.le_refl _) _
  go_upto_region 7 with fail
  rw [← hw7]
  have H8 : Aside (w7.heap[w6.heap.size]? = some (.cells (tcells un (.slice ya yn yc)) 31 (0, 0))) := by rw [hw7]; exact top8 rfl
  have H6 : Aside (w7.heap[w4.heap.size]? = some (.cells (tcells tn (.slice xa xn xc)) 31 (0, 0))) := keep8 H6.out hBw7
  have HB7 : Aside (Below w6.heap.size w6 w7) := hBw7
  have HWa : Aside (Wide w7 w.heap.size ls) := HWa.out.below hBw7
  have HWb : Aside (Wide w7 gb lt) := HWb.out.below hBw7
  replace hB : Below w.heap.size w w7 := hB.trans (hBw7.mono hB.size)
  clear hBw7
  have hb13 : Below w4.heap.size w4 w7 := (HB5.out.trans (HB6.out.mono HB5.out.size)).trans (HB7.out.mono (Nat.le_trans HB5.out.size HB6.out.size))
  have cm := HCM.out _ _ w7 ⟨⟨0, _, (HD1.out.below (Nat.le_refl _) hb13).mono (Nat.zero_le _) hb13.size, Nat.le_refl _⟩, ⟨0, _, (HD2.out.below (Nat.le_refl _) HB7.out).mono (Nat.zero_le _) HB7.out.size, Nat.le_refl _⟩⟩
  rw [← HN1.out, ← HN2.out] at cm
  obtain ⟨⟨s0, s1, s2, s3, s4, s5, s6, s7⟩, -⟩ := tcells_at H6.out
  obtain ⟨⟨t0, t1, t2, t3, t4, t5, t6, t7⟩, -⟩ := tcells_at H8.out
  clear HB5 HB6 HB7 H6 H8 HD1 HD2 HN1 HN2 HCM hb13 hw7
  go_wp2_with (go_at_call 9; refine cm.mono ?_; rintro e w7b ⟨rfl, hB7b⟩; clear s0 s1 s2 s3 s4 s5 s6 s7 t0 t1 t2 t3 t4 t5 t6 t7 cm; have HB7b : Aside _ := hB7b; clear hB7b)
  have hB7b := HB7b.out
  have HWa : Aside (Wide w7b w.heap.size ls) := HWa.out.below hB7b
  have HWb : Aside (Wide w7b gb lt) := HWb.out.below hB7b
  replace hB : Below w.heap.size w w7b := hB.trans (hB7b.mono hB.size)
  clear hB7b
  clear HB7b
  have HH : Aside (∀ W, Below w7b.heap.size w7b W → Wide W w.heap.size ls ∧ Wide W gb lt ∧ Below w.heap.size w W) := fun W hW => ⟨HWa.out.below hW, HWb.out.below hW, hB.trans (hW.mono hB.size)⟩
  have hA := Below.refl w7b.heap.size w7b
  clear HWa HWb hB
  refine (HTh.out w7b _ _ (HC1.out _ _ (HH.out _ hA).1) (HC2.out _ _ (HH.out _ hA).2.1)).mono ?_
  rintro e w8 ⟨p8, c8, rfl, hO8, hA8⟩
  have HO8 : Aside (Own w7b w8 (.slice p8 L.length c8) L) := hO8
  clear hO8 hA
  go_wp2_with fail
  refine (HTd.out w8 _ _ (HI1.out _ (HH.out _ hA8).2.2) (HI2.out _ (HH.out _ hA8).2.2)).mono ?_
  rintro e w9 ⟨p9, c9, rfl, hO9, hB9⟩
  have HO9 : Aside (Own w8 w9 (.slice p9 L.length c9) L) := hO9
  have HO8 : Aside (Own w7b w9 (.slice p8 L.length c8) L) := HO8.out.below hB9
  have hA9 : Below w7b.heap.size w7b w9 := hA8.trans (hB9.mono hA8.size)
  clear hO9 hB9 hA8
  go_wp2_with fail
  refine (HMe.out w9 _ _ (HC1.out _ _ (HH.out _ hA9).1) (HC2.out _ _ (HH.out _ hA9).2.1)).mono ?_
  rintro e w10 ⟨rfl, hB10⟩
  have HO9 : Aside (Own w8 w10 (.slice p9 L.length c9) L) := HO9.out.below hB10
  have HO8 : Aside (Own w7b w10 (.slice p8 L.length c8) L) := HO8.out.below hB10
  have hA10 : Below w7b.heap.size w7b w10 := hA9.trans (hB10.mono hA9.size)
  clear hB10 hA9
  go_wp2_with fail
  refine (HEq.out L w10 _ _ (by have := HLn.out; omega) (IsCos.own HO8.out) (IsCos.own HO9.out)).mono ?_
  rintro e w11 ⟨rfl, hB11⟩
  have HO8 : Aside (Own w7b w11 (.slice p8 L.length c8) L) := HO8.out.below hB11
  have hA11 : Below w7b.heap.size w7b w11 := hA10.trans (hB11.mono hA10.size)
  clear hB11 hA10 HO9
  -- the bag
  have had := addFirstC w11 p8 L.length c8
  have hBa : ∀ o : Obj, Below w7b.heap.size w7b (w11.alloc o) := fun o => hA11.alloc hA11.size o
  go_wp2_with fail
  go_at_call 14
  refine had.mono ?_
  rintro e w12 ⟨rfl, b1, c1, hb12, ho12, hg12, t12⟩
  have hA12 : Below w7b.heap.size w7b w12 := below_tc (hBa _) t12 hA11.size (fun r e => by cases e) (hBa _).size
  have HO12 : Aside (Own w7b w12 (.slice p8 L.length c8) L) := by
    refine Cq.own_two (HO8.out.below ((Below.refl _ _).alloc (Nat.le_refl _) (.cells Cq.bag0 59))) t12 ?_
    intro x hx
    have := (HO8.out.blk hx).2
    exact ⟨by omega, by simp⟩
  have hz12 := t12.size
  simp at hz12 hg12
  have HB12 : Aside (w11.heap.size + 1 ≤ w12.heap.size ∧ w11.heap.size + 1 ≤ b1) := ⟨hz12, hg12⟩
  have HP12 : Aside (w12.heap[w11.heap.size]? = some (.cells (Cq.bag0.setIfInBounds 6 (.slice (some ⟨b1, 0, none⟩) 1 c1)) 59 (0, 0)) ∧ w12.ownsRow (w11.heap.size + 1) 22 1 (.slice (some ⟨b1, 0, none⟩) 1 c1) 1 [.slice p8 L.length c8]) := ⟨hb12, ho12⟩
  have HO8x : Aside (Own w7b w11 (.slice p8 L.length c8) L) := HO8.out
  have HA11 : Aside (Below w7b.heap.size w7b w11) := hA11
  clear had hBa hb12 ho12 hg12 hz12 t12 HO8 hA11
  go_wp2_with fail
  refine (HTh.out w12 _ _ (HC1.out _ _ (HH.out _ hA12).1) (HC2.out _ _ (HH.out _ hA12).2.1)).mono ?_
  rintro e w13 ⟨p13, c13, rfl, hO13, hB13⟩
  have hA13 : Below w7b.heap.size w7b w13 := hA12.trans (hB13.mono hA12.size)
  obtain ⟨hb12, ho12⟩ := HP12.out
  have hB13s := hB13.size
  have hb13 := (hB13.block w11.heap.size (by have := HB12.out; omega)).trans hb12
  have ho13 := Cq.own_below ho12 hB13
  have HO12 : Aside (Own w7b w13 (.slice p8 L.length c8) L) := HO12.out.below hB13
  have HO13 : Aside (Own w12 w13 (.slice p13 L.length c13) L) := hO13
  have had := addNextC w11.heap.size w13 b1 c1 _ p13 L.length c13 hb13 ho13
  have HB13 : Aside (w12.heap.size ≤ w13.heap.size) := hB13s
  have HI13 : Aside (w11.heap.size + 1 ≤ b1 ∧ b1 < w12.heap.size) := ⟨HB12.out.2, (Cq.own_in ho12 (b := b1) rfl).2⟩
  clear hO13 hB13 hb12 ho12 hb13 ho13 hB13s hA12
  go_wp2_with fail
  go_at_call 14
  refine had.mono ?_
  rintro e w14 ⟨rfl, b2, c2, hb14, ho14, hg14, t14⟩
  have hA14 : Below w7b.heap.size w7b w14 := below_tc hA13 t14 HA11.out.size (fun r e => by cases e; have := HA11.out.size; have := HI13.out; omega) hA13.size
  obtain ⟨hLn, hBr, hc2⟩ := Cq.ready (H := w7b.heap.size) HO12.out (Own.lower HO13.out (by have := HA11.out.size; have := HB12.out; omega)) (by have := HLn.out; omega) (by have := HLn.out; omega) ⟨p8, c8, rfl⟩ ⟨p13, c13, rfl⟩
    (B := w11.heap.size) (fun x hx => by have := (HO13.out.blk hx).1; have := HI13.out; omega) (fun x hx => by have := (HO8x.out.blk hx).2; have := HI13.out; omega) (fun x hx hy => by have := (HO8x.out.blk hx).2; have := (HO13.out.blk hy).1; have := HI13.out; omega) HO12.out hb14 ho14 hg14 t14
  have hAp := Cq.apart_of w11.heap.size (fun w' => Below w7b.heap.size w14 w') _ hBr ((Cq.apart_any _ w7b.heap.size w11.heap.size b2 2 c2 _ hLn hc2 hA14.size).mono (fun e w' h => ⟨h.1, fun k hk h4 => (World.cell?_of_block h.2.bag).trans (hBr k hk h4), h.2.below⟩))
  clear had hLn hBr hc2 hb14 ho14 hg14 t14 HO12 HO13 HO8x HP12 HB12 HB13 HI13 HA11 hA13
  go_wp2_with fail
  refine hAp.mono ?_
  rintro e w15 ⟨rfl, hB15⟩
  have hA15 : Below w7b.heap.size w7b w15 := hA14.trans hB15
  clear hAp hB15 hA14
  go_wp2_with fail
  refine (HEq.out ls w15 _ _ (by have := HZ1.out; omega) (HC1.out _ _ (HH.out _ hA15).1) (HI1.out _ (HH.out _ hA15).2.2)).mono ?_
  rintro e w16 ⟨rfl, hB16⟩
  have hA16 : Below w7b.heap.size w7b w16 := hA15.trans (hB16.mono hA15.size)
  clear hB16 hA15
  go_wp2_with fail
  refine (HEq.out lt w16 _ _ (by have := HZ2.out; omega) (HC2.out _ _ (HH.out _ hA16).2.1) (HI2.out _ (HH.out _ hA16).2.2)).mono ?_
  rintro e w17 ⟨rfl, hB17⟩
  have hA17 : Below w7b.heap.size w7b w17 := hA16.trans (hB17.mono hA16.size)
  clear hB17 hA16
  go_wp2_with fail
  refine (HSa.out w17 _ (HH.out _ hA17).1).mono ?_
  rintro e w18 ⟨rfl, hB18⟩
  have hA18 : Below w7b.heap.size w7b w18 := hA17.trans (hB18.mono hA17.size)
  clear hB18 hA17
  go_wp2_with fail
  refine (HSb.out w18 _ (HH.out _ hA18).2.1).mono ?_
  rintro e w19 ⟨rfl, hB19⟩
  have hA19 : Below w7b.heap.size w7b w19 := hA18.trans (hB19.mono hA18.size)
  clear hB19 hA18
  go_wp2_with fail
  refine (HWk.out _ (HH.out _ hA19).2.2).mono ?_
  rintro e w20 ⟨rfl, hB20⟩
  go_wp2_with fail
  go_ret
  exact ⟨rfl, hB20⟩
end Go.Proofs.YtaaokecdmbmgbaaGreatDoor
