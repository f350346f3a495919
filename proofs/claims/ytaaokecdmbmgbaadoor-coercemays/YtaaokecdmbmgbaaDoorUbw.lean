/- CoerceMays: the law's own walk. -/
import Derived.Test.YtaaokecdmbmgbaaDoorUbk
import Derived.Test.YtaaokecdmbmgbaaDoorUbq
import Derived.Test.YtaaokecdmbmgbaaDoorUbv
import Derived.Test.YtaaokecdmbmgbaaDoorUbu
namespace Go.Proofs.YtaaokecdmbmgbaaDoor
open Go.RowKit Cc
set_option maxRecDepth 100000
set_option linter.unusedSimpArgs false
set_option linter.unusedVariables false
set_option maxHeartbeats 400000 in
theorem longC_any (a : Option Addr) (n c : Nat) (w : World) :
    Calls Tryd.prog 11 #[.slice a n c] w fun e w' => e = .returned (.bool (decide (16384 < n))) ∧ w' = w := by
  have h : decide ((16384 : Int) < (n : Int)) = decide (16384 < n) := by rw [decide_eq_decide]; omega
  go_enter Tryd.func11, Tryd.ntmps11
  go_wp2
  go_ret
  exact ⟨ret_b (by first | rfl | exact h), rfl⟩
theorem worksM_at (w W : World) (hW : Below w.heap.size w W) : Calls Tryd.prog 10 #[] W fun e w' => e = .returned (.bool true) ∧ Below w.heap.size w w' :=
  (works_any W).mono (by rintro e w' ⟨rfl, hB⟩; exact ⟨rfl, hW.trans (hB.mono hW.size)⟩)
set_option maxHeartbeats 800000 in
theorem mays_long (l : List N) (v : Value) (f t : ByteArray) (w : World) (h : IsCos w v l) (hl : 16384 < l.length) :
    Calls Tryd.prog 4 #[v, .string f, .string t] w fun e w' => e = .returned (.bool true) ∧ Below w.heap.size w w' := by
  obtain ⟨a, c, rfl⟩ := h.form
  have cl := longC_any a l.length c
  rw [decide_eq_true hl] at cl
  have cw := worksM_at w
  clear h
  go_enter Tryd.func4, Tryd.ntmps4
  go_wp2_with (first | (go_at_call 11; refine (cl _).mono ?_; rintro e w1 ⟨rfl, rfl⟩) | (go_at_call 10; refine (cw _ (Below.refl _ _)).mono ?_; rintro e w9 ⟨rfl, hB⟩))
  go_ret
  exact ⟨rfl, hB⟩
set_option maxHeartbeats 3200000 in
theorem mays_none (l : List N) (v : Value) (f t : ByteArray) (w : World) (h : IsCos w v l) (hl : l.length ≤ 16384) (hn : Cc.whole l = none) :
    Calls Tryd.prog 4 #[v, .string f, .string t] w fun e w' => e = .returned (.bool true) ∧ Below w.heap.size w w' := by
  obtain ⟨a, cp, rfl⟩ := h.form
  have cl := longC_any a l.length cp
  rw [decide_eq_false (by omega)] at cl
  have cw := worksM_at w
  have cW := wideCos_any l (by omega) _ w h
  have cR : ∀ W, Below w.heap.size w W → Calls Tryd.prog 13 #[.slice a l.length cp] W fun e w' => RrEnd W (Cc.whole l) e w' ∧ Below w.heap.size w w' ∧ Below W.heap.size W w' := fun W hW =>
    (dRead_any l _ W (h.below hW) (by omega)).mono (by rintro e w' ⟨hE, hB⟩; exact ⟨hE, hW.trans (hB.mono hW.size), hB⟩)
  have HV : Aside (IsCos w (.slice a l.length cp) l) := h
  have HMay : Aside (∀ W v', Below w.heap.size w W → IsCos W v' l → Calls Tryd.prog 18 #[v'] W fun e w' => e = .returned (.bool (Cc.whole l).isSome) ∧ Below w.heap.size w w' ∧ Below W.heap.size W w') := fun W v' hW hv =>
    (May_any l v' W hv (by omega)).mono (by rintro e w' ⟨rfl, hB⟩; exact ⟨rfl, hW.trans (hB.mono hW.size), hB⟩)
  have HHi : Aside (∀ W v', Below w.heap.size w W → IsCos W v' l → Calls Tryd.prog 19 #[v'] W fun e w' => e = .returned (.int .i64 (high0 (Cc.whole l) : Int)) ∧ Below w.heap.size w w' ∧ Below W.heap.size W w') := fun W v' hW hv =>
    (Height_any l v' W hv (by omega)).mono (by rintro e w' ⟨rfl, hB⟩; exact ⟨rfl, hW.trans (hB.mono hW.size), hB⟩)
  have HId : Aside (∀ W v', Below w.heap.size w W → IsCos W v' l → Calls Tryd.prog 20 #[v'] W fun e w' => e = .returned (.bool (id0 (Cc.whole l))) ∧ Below w.heap.size w w' ∧ Below W.heap.size W w') := fun W v' hW hv =>
    (IsId_any l v' W hv (by omega)).mono (by rintro e w' ⟨rfl, hB⟩; exact ⟨rfl, hW.trans (hB.mono hW.size), hB⟩)
  have HFi : Aside (∀ W v', Below w.heap.size w W → IsCos W v' l → Calls Tryd.prog 21 #[v', .string f, .string t] W fun e w' => e = .returned (.bool (fitB (Cc.whole l) f t)) ∧ Below w.heap.size w w' ∧ Below W.heap.size W w') := fun W v' hW hv =>
    (Fits_any l v' W hv (by omega) f t).mono (by rintro e w' ⟨rfl, hB⟩; exact ⟨rfl, hW.trans (hB.mono hW.size), hB⟩)
  have HEq : Aside (∀ W v', Below w.heap.size w W → IsCos W v' l → Calls Tryd.prog 9 #[v', .slice a l.length cp] W fun e w' => e = .returned (.bool true) ∧ Below w.heap.size w w' ∧ Below W.heap.size W w') := fun W v' hW hv => by
    refine (eqCos_any l l v' _ W hv (HV.out.below hW) (by omega) (by omega)).mono ?_
    rintro e w' ⟨rfl, hB⟩
    exact ⟨ret_b (by simp), hW.trans (hB.mono hW.size), hB⟩
  have HSp : Aside (∀ W g, Below w.heap.size w W → Wide W g l → Calls Tryd.prog 22 #[.slice (some ⟨g, 0, none⟩) l.length (l.length + 64)] W fun e w' => e = .returned (.bool true) ∧ Below w.heap.size w w') := fun W g hW hv =>
    (spareCos_any l (by omega) g W hv).mono (by rintro e w' ⟨rfl, hB⟩; exact ⟨rfl, hW.trans (hB.mono hW.size)⟩)
  rw [hn] at HMay HHi HId HFi cR
  simp only [Option.isSome_none, high0, id0, fitB] at HMay HHi HId HFi
  clear hn h
  have HWc : Aside (∀ W g, Wide W g l → IsCos W (.slice (some ⟨g, 0, none⟩) l.length (l.length + 64)) l) := fun W g hv => hv.cos
  generalize l.length = n at *
  go_enter Tryd.func4, Tryd.ntmps4
  go_wp2_with (go_at_call 11; refine (cl _).mono ?_; rintro e w1 ⟨rfl, hw1⟩; replace hw1 := hw1.symm; subst hw1)
  refine cW.mono ?_
  rintro e w2 ⟨rfl, hW2, hB2⟩
  have HW : Aside (Wide w2 w.heap.size l) := hW2
  clear cW hW2 cl
  go_wp2_with fail
  refine (cR _ hB2).mono ?_
  rintro e w3 ⟨⟨tn, ta, tm, tc, rfl⟩, hB, hB3⟩
  have HW : Aside (Wide w3 w.heap.size l) := HW.out.below hB3
  clear hB2 hB3 cR
  go_wp2_with fail
  obtain ⟨w4, hw4⟩ : ∃ w4, w4 = w3.alloc (.cells #[.int .i8 tn.op, .int .i64 tn.proj, .bool tn.inj, .int .u8 tn.head, .int .i64 tn.label, .int .u8 tn.frm, .int .u8 tn.tto, .slice ta tm tc] 36) := ⟨_, rfl⟩
  rw [← hw4]
  have HW : Aside (Wide w4 w.heap.size l) := by rw [hw4]; exact HW.out.below ((Below.refl _ _).alloc (Nat.le_refl _) _)
  replace hB : Below w.heap.size w w4 := by rw [hw4]; exact below_al hB hB.size _
  clear hw4
  go_wp2_with fail
  refine (HMay.out _ _ hB (HWc.out _ _ HW.out)).mono ?_
  rintro e w10 ⟨rfl, hB', hB''⟩
  have HW : Aside (Wide w10 w.heap.size l) := HW.out.below hB''
  replace hB := hB'
  clear hB' hB''
  go_wp2_with fail
  refine (HHi.out _ _ hB (HWc.out _ _ HW.out)).mono ?_
  rintro e w11 ⟨rfl, hB', hB''⟩
  have HW : Aside (Wide w11 w.heap.size l) := HW.out.below hB''
  replace hB := hB'
  clear hB' hB''
  go_wp2_with fail
  refine (HId.out _ _ hB (HWc.out _ _ HW.out)).mono ?_
  rintro e w12 ⟨rfl, hB', hB''⟩
  have HW : Aside (Wide w12 w.heap.size l) := HW.out.below hB''
  replace hB := hB'
  clear hB' hB''
  go_wp2_with fail
  refine (HFi.out _ _ hB (HWc.out _ _ HW.out)).mono ?_
  rintro e w13 ⟨rfl, hB', hB''⟩
  have HW : Aside (Wide w13 w.heap.size l) := HW.out.below hB''
  replace hB := hB'
  clear hB' hB''
  go_wp2_with fail
  refine (HEq.out _ _ hB (HWc.out _ _ HW.out)).mono ?_
  rintro e w14 ⟨rfl, hB', hB''⟩
  have HW : Aside (Wide w14 w.heap.size l) := HW.out.below hB''
  replace hB := hB'
  clear hB' hB''
  go_wp2_with fail
  refine (HSp.out _ _ hB HW.out).mono ?_
  rintro e w15 ⟨rfl, hB⟩
  go_wp2_with fail
  refine (cw _ hB).mono ?_
  rintro e w16 ⟨rfl, hB⟩
  go_wp2_with fail
  go_ret
  exact ⟨rfl, hB⟩
set_option maxHeartbeats 3200000 in
theorem mays_f (l : List N) (c : C) (v : Value) (f t : ByteArray) (w : World) (h : IsCos w v l) (hl : l.length ≤ 16384) (hn : Cc.whole l = some c) (hF : isT f = false) :
    Calls Tryd.prog 4 #[v, .string f, .string t] w fun e w' => e = .returned (.bool true) ∧ Below w.heap.size w w' := by
  obtain ⟨a, cp, rfl⟩ := h.form
  have cl := longC_any a l.length cp
  rw [decide_eq_false (by omega)] at cl
  have cw := worksM_at w
  have cW := wideCos_any l (by omega) _ w h
  have cR : ∀ W, Below w.heap.size w W → Calls Tryd.prog 13 #[.slice a l.length cp] W fun e w' => RrEnd W (Cc.whole l) e w' ∧ Below w.heap.size w w' ∧ Below W.heap.size W w' := fun W hW =>
    (dRead_any l _ W (h.below hW) (by omega)).mono (by rintro e w' ⟨hE, hB⟩; exact ⟨hE, hW.trans (hB.mono hW.size), hB⟩)
  have HV : Aside (IsCos w (.slice a l.length cp) l) := h
  have HMay : Aside (∀ W v', Below w.heap.size w W → IsCos W v' l → Calls Tryd.prog 18 #[v'] W fun e w' => e = .returned (.bool (Cc.whole l).isSome) ∧ Below w.heap.size w w' ∧ Below W.heap.size W w') := fun W v' hW hv =>
    (May_any l v' W hv (by omega)).mono (by rintro e w' ⟨rfl, hB⟩; exact ⟨rfl, hW.trans (hB.mono hW.size), hB⟩)
  have HHi : Aside (∀ W v', Below w.heap.size w W → IsCos W v' l → Calls Tryd.prog 19 #[v'] W fun e w' => e = .returned (.int .i64 (high0 (Cc.whole l) : Int)) ∧ Below w.heap.size w w' ∧ Below W.heap.size W w') := fun W v' hW hv =>
    (Height_any l v' W hv (by omega)).mono (by rintro e w' ⟨rfl, hB⟩; exact ⟨rfl, hW.trans (hB.mono hW.size), hB⟩)
  have HId : Aside (∀ W v', Below w.heap.size w W → IsCos W v' l → Calls Tryd.prog 20 #[v'] W fun e w' => e = .returned (.bool (id0 (Cc.whole l))) ∧ Below w.heap.size w w' ∧ Below W.heap.size W w') := fun W v' hW hv =>
    (IsId_any l v' W hv (by omega)).mono (by rintro e w' ⟨rfl, hB⟩; exact ⟨rfl, hW.trans (hB.mono hW.size), hB⟩)
  have HFi : Aside (∀ W v', Below w.heap.size w W → IsCos W v' l → Calls Tryd.prog 21 #[v', .string f, .string t] W fun e w' => e = .returned (.bool (fitB (Cc.whole l) f t)) ∧ Below w.heap.size w w' ∧ Below W.heap.size W w') := fun W v' hW hv =>
    (Fits_any l v' W hv (by omega) f t).mono (by rintro e w' ⟨rfl, hB⟩; exact ⟨rfl, hW.trans (hB.mono hW.size), hB⟩)
  have HEq : Aside (∀ W v', Below w.heap.size w W → IsCos W v' l → Calls Tryd.prog 9 #[v', .slice a l.length cp] W fun e w' => e = .returned (.bool true) ∧ Below w.heap.size w w' ∧ Below W.heap.size W w') := fun W v' hW hv => by
    refine (eqCos_any l l v' _ W hv (HV.out.below hW) (by omega) (by omega)).mono ?_
    rintro e w' ⟨rfl, hB⟩
    exact ⟨ret_b (by simp), hW.trans (hB.mono hW.size), hB⟩
  have HSp : Aside (∀ W g, Below w.heap.size w W → Wide W g l → Calls Tryd.prog 22 #[.slice (some ⟨g, 0, none⟩) l.length (l.length + 64)] W fun e w' => e = .returned (.bool true) ∧ Below w.heap.size w w') := fun W g hW hv =>
    (spareCos_any l (by omega) g W hv).mono (by rintro e w' ⟨rfl, hB⟩; exact ⟨rfl, hW.trans (hB.mono hW.size)⟩)
  rw [hn] at HMay HHi HId HFi cR
  simp only [Option.isSome_some, high0, id0, fitB] at HMay HHi HId HFi
  have hhi : high c ≤ 64 := (whole_iff.1 hn).2.2
  have HHigh : Aside (∀ W lo hi v, DT W lo hi c v → hi ≤ W.heap.size → ∀ {x}, nod c = x → Calls Tryd.prog 14 #[tree x v] W fun e w' => e = .returned (.int .i64 (high c : Int)) ∧ Below W.heap.size W w') := by
    rintro W lo hi v hd hh x rfl
    exact dHigh_any c v lo hi W hd hh (by omega)
  have HDid : Aside (∀ W lo hi v, DT W lo hi c v → hi ≤ W.heap.size → ∀ {x}, nod c = x → Calls Tryd.prog 15 #[tree x v] W fun e w' => e = .returned (.bool (idB c)) ∧ Below W.heap.size W w') := by
    rintro W lo hi v hd hh x rfl
    exact dId_any c v lo hi W hd hh
  have cgF : ∀ W, Calls Tryd.prog 16 #[.string f] W fun e w' => e = .returned (.bool (isT f)) ∧ w' = W := T3.good16_any f
  have cgT : ∀ W, Calls Tryd.prog 16 #[.string t] W fun e w' => e = .returned (.bool (isT t)) ∧ w' = W := T3.good16_any t
  rw [hF] at cgF HFi
  simp only [Bool.false_and] at HFi
  clear hF
  have hHH : (((high c : Nat) : Int) != ((high c : Nat) : Int)) = false := by simp
  have hII : (idB c != idB c) = false := by simp
  clear hn h hhi
  generalize high c = Hc at *
  generalize idB c = Ic at *
  have HWc : Aside (∀ W g, Wide W g l → IsCos W (.slice (some ⟨g, 0, none⟩) l.length (l.length + 64)) l) := fun W g hv => hv.cos
  generalize l.length = n at *
  go_enter Tryd.func4, Tryd.ntmps4
  go_wp2_with (go_at_call 11; refine (cl _).mono ?_; rintro e w1 ⟨rfl, hw1⟩; replace hw1 := hw1.symm; subst hw1)
  refine cW.mono ?_
  rintro e w2 ⟨rfl, hW2, hB2⟩
  have HW : Aside (Wide w2 w.heap.size l) := hW2
  clear cW hW2 cl
  go_wp2_with fail
  refine (cR _ hB2).mono ?_
  rintro e w3 ⟨⟨kv, rfl, hdt⟩, hB, hB3⟩
  have HW : Aside (Wide w3 w.heap.size l) := HW.out.below hB3
  obtain ⟨da, dn, dc, rfl⟩ : ∃ da dn dc, kv = .slice da dn dc := by
    obtain ⟨da, dc, ks', e, -⟩ := hdt.row
    exact ⟨da, _, dc, e⟩
  obtain ⟨x, hx⟩ : ∃ x, x = nod c := ⟨_, rfl⟩
  rw [← hx]
  obtain ⟨w4, hw4⟩ : ∃ w4, w4 = w3.alloc (.cells #[.int .i8 x.op, .int .i64 x.proj, .bool x.inj, .int .u8 x.head, .int .i64 x.label, .int .u8 x.frm, .int .u8 x.tto, .slice da dn dc] 36) := ⟨_, rfl⟩
  have hB34 : Below w3.heap.size w3 w4 := by rw [hw4]; exact below_al (Below.refl _ _) (Nat.le_refl _) _
  have HT : Aside (∀ W, Below w4.heap.size w4 W → W.cell? ⟨w3.heap.size, 0, none⟩ = some (.int .i8 x.op) ∧ W.cell? ⟨w3.heap.size, 1, none⟩ = some (.int .i64 x.proj) ∧ W.cell? ⟨w3.heap.size, 2, none⟩ = some (.bool x.inj) ∧ W.cell? ⟨w3.heap.size, 3, none⟩ = some (.int .u8 x.head) ∧ W.cell? ⟨w3.heap.size, 4, none⟩ = some (.int .i64 x.label) ∧ W.cell? ⟨w3.heap.size, 5, none⟩ = some (.int .u8 x.frm) ∧ W.cell? ⟨w3.heap.size, 6, none⟩ = some (.int .u8 x.tto) ∧ W.cell? ⟨w3.heap.size, 7, none⟩ = some (.slice da dn dc)) := by
    intro W hW
    have e : ∀ o, W.cell? ⟨w3.heap.size, o, none⟩ = w4.cell? ⟨w3.heap.size, o, none⟩ := fun o => hW.cell (p := ⟨w3.heap.size, o, none⟩) (by rw [hw4]; simp)
    simp only [e]
    rw [hw4]; simp
  have HDT : Aside (∀ W, Below w4.heap.size w4 W → DT W w2.heap.size w3.heap.size c (.slice da dn dc) ∧ w3.heap.size ≤ W.heap.size) := fun W hW =>
    ⟨hdt.below (Nat.le_refl _) (hB34.trans (hW.mono hB34.size)), (hB34.trans (hW.mono hB34.size)).size⟩
  have HX : Aside (nod c = x) := hx.symm
  clear hdt hx hB2 hB3 cR
  go_upto_region 7 with fail
  rw [← hw4]
  have HW : Aside (Wide w4 w.heap.size l) := HW.out.below hB34
  replace hB : Below w.heap.size w w4 := hB.trans (hB34.mono hB.size)
  clear hB34
  have hC := Below.refl w4.heap.size w4
  generalize w3.heap.size = K3 at *
  clear hw4
  obtain ⟨t0, t1, t2, t3, t4, t5, t6, t7⟩ := HT.out _ hC
  go_wp2_with fail
  refine (HHigh.out _ _ _ _ (HDT.out _ hC).1 (HDT.out _ hC).2 HX.out).mono ?_
  rintro e w5 ⟨rfl, hB5⟩
  have HW : Aside (Wide w5 w.heap.size l) := HW.out.below hB5
  replace hB : Below w.heap.size w w5 := hB.trans (hB5.mono hB.size)
  replace hC : Below w4.heap.size w4 w5 := hC.trans hB5
  clear t0 t1 t2 t3 t4 t5 t6 t7 hB5
  obtain ⟨t0, t1, t2, t3, t4, t5, t6, t7⟩ := HT.out _ hC
  go_wp2_with fail
  refine (HDid.out _ _ _ _ (HDT.out _ hC).1 (HDT.out _ hC).2 HX.out).mono ?_
  rintro e w6 ⟨rfl, hB6⟩
  have HW : Aside (Wide w6 w.heap.size l) := HW.out.below hB6
  replace hB : Below w.heap.size w w6 := hB.trans (hB6.mono hB.size)
  replace hC : Below w4.heap.size w4 w6 := hC.trans (hB6.mono hC.size)
  clear t0 t1 t2 t3 t4 t5 t6 t7 hB6
  go_wp2_with (go_at_call 16; refine (cgF _).mono ?_; rintro e w' ⟨rfl, hw'⟩; replace hw' := hw'.symm; subst hw'; clear cgF)
  go_wp2_with fail
  refine (HMay.out _ _ hB (HWc.out _ _ HW.out)).mono ?_
  rintro e w10 ⟨rfl, hB', hB''⟩
  have HW : Aside (Wide w10 w.heap.size l) := HW.out.below hB''
  replace hB := hB'
  clear hB' hB''
  go_wp2_with fail
  refine (HHi.out _ _ hB (HWc.out _ _ HW.out)).mono ?_
  rintro e w11 ⟨rfl, hB', hB''⟩
  have HW : Aside (Wide w11 w.heap.size l) := HW.out.below hB''
  replace hB := hB'
  clear hB' hB''
  go_wp2_with fail
  refine (HId.out _ _ hB (HWc.out _ _ HW.out)).mono ?_
  rintro e w12 ⟨rfl, hB', hB''⟩
  have HW : Aside (Wide w12 w.heap.size l) := HW.out.below hB''
  replace hB := hB'
  clear hB' hB''
  go_wp2_with fail
  refine (HFi.out _ _ hB (HWc.out _ _ HW.out)).mono ?_
  rintro e w13 ⟨rfl, hB', hB''⟩
  have HW : Aside (Wide w13 w.heap.size l) := HW.out.below hB''
  replace hB := hB'
  clear hB' hB''
  go_wp2_with fail
  refine (HEq.out _ _ hB (HWc.out _ _ HW.out)).mono ?_
  rintro e w14 ⟨rfl, hB', hB''⟩
  have HW : Aside (Wide w14 w.heap.size l) := HW.out.below hB''
  replace hB := hB'
  clear hB' hB''
  go_wp2_with fail
  refine (HSp.out _ _ hB HW.out).mono ?_
  rintro e w15 ⟨rfl, hB⟩
  go_wp2_with fail
  refine (cw _ hB).mono ?_
  rintro e w16 ⟨rfl, hB⟩
  go_wp2_with fail
  go_ret
  exact ⟨rfl, hB⟩
set_option maxHeartbeats 3200000 in
theorem mays_t (l : List N) (c : C) (v : Value) (f t : ByteArray) (w : World) (h : IsCos w v l) (hl : l.length ≤ 16384) (hn : Cc.whole l = some c) (hF : isT f = true) (hG : isT t = false) :
    Calls Tryd.prog 4 #[v, .string f, .string t] w fun e w' => e = .returned (.bool true) ∧ Below w.heap.size w w' := by
  obtain ⟨a, cp, rfl⟩ := h.form
  have cl := longC_any a l.length cp
  rw [decide_eq_false (by omega)] at cl
  have cw := worksM_at w
  have cW := wideCos_any l (by omega) _ w h
  have cR : ∀ W, Below w.heap.size w W → Calls Tryd.prog 13 #[.slice a l.length cp] W fun e w' => RrEnd W (Cc.whole l) e w' ∧ Below w.heap.size w w' ∧ Below W.heap.size W w' := fun W hW =>
    (dRead_any l _ W (h.below hW) (by omega)).mono (by rintro e w' ⟨hE, hB⟩; exact ⟨hE, hW.trans (hB.mono hW.size), hB⟩)
  have HV : Aside (IsCos w (.slice a l.length cp) l) := h
  have HMay : Aside (∀ W v', Below w.heap.size w W → IsCos W v' l → Calls Tryd.prog 18 #[v'] W fun e w' => e = .returned (.bool (Cc.whole l).isSome) ∧ Below w.heap.size w w' ∧ Below W.heap.size W w') := fun W v' hW hv =>
    (May_any l v' W hv (by omega)).mono (by rintro e w' ⟨rfl, hB⟩; exact ⟨rfl, hW.trans (hB.mono hW.size), hB⟩)
  have HHi : Aside (∀ W v', Below w.heap.size w W → IsCos W v' l → Calls Tryd.prog 19 #[v'] W fun e w' => e = .returned (.int .i64 (high0 (Cc.whole l) : Int)) ∧ Below w.heap.size w w' ∧ Below W.heap.size W w') := fun W v' hW hv =>
    (Height_any l v' W hv (by omega)).mono (by rintro e w' ⟨rfl, hB⟩; exact ⟨rfl, hW.trans (hB.mono hW.size), hB⟩)
  have HId : Aside (∀ W v', Below w.heap.size w W → IsCos W v' l → Calls Tryd.prog 20 #[v'] W fun e w' => e = .returned (.bool (id0 (Cc.whole l))) ∧ Below w.heap.size w w' ∧ Below W.heap.size W w') := fun W v' hW hv =>
    (IsId_any l v' W hv (by omega)).mono (by rintro e w' ⟨rfl, hB⟩; exact ⟨rfl, hW.trans (hB.mono hW.size), hB⟩)
  have HFi : Aside (∀ W v', Below w.heap.size w W → IsCos W v' l → Calls Tryd.prog 21 #[v', .string f, .string t] W fun e w' => e = .returned (.bool (fitB (Cc.whole l) f t)) ∧ Below w.heap.size w w' ∧ Below W.heap.size W w') := fun W v' hW hv =>
    (Fits_any l v' W hv (by omega) f t).mono (by rintro e w' ⟨rfl, hB⟩; exact ⟨rfl, hW.trans (hB.mono hW.size), hB⟩)
  have HEq : Aside (∀ W v', Below w.heap.size w W → IsCos W v' l → Calls Tryd.prog 9 #[v', .slice a l.length cp] W fun e w' => e = .returned (.bool true) ∧ Below w.heap.size w w' ∧ Below W.heap.size W w') := fun W v' hW hv => by
    refine (eqCos_any l l v' _ W hv (HV.out.below hW) (by omega) (by omega)).mono ?_
    rintro e w' ⟨rfl, hB⟩
    exact ⟨ret_b (by simp), hW.trans (hB.mono hW.size), hB⟩
  have HSp : Aside (∀ W g, Below w.heap.size w W → Wide W g l → Calls Tryd.prog 22 #[.slice (some ⟨g, 0, none⟩) l.length (l.length + 64)] W fun e w' => e = .returned (.bool true) ∧ Below w.heap.size w w') := fun W g hW hv =>
    (spareCos_any l (by omega) g W hv).mono (by rintro e w' ⟨rfl, hB⟩; exact ⟨rfl, hW.trans (hB.mono hW.size)⟩)
  rw [hn] at HMay HHi HId HFi cR
  simp only [Option.isSome_some, high0, id0, fitB] at HMay HHi HId HFi
  have hhi : high c ≤ 64 := (whole_iff.1 hn).2.2
  have HHigh : Aside (∀ W lo hi v, DT W lo hi c v → hi ≤ W.heap.size → ∀ {x}, nod c = x → Calls Tryd.prog 14 #[tree x v] W fun e w' => e = .returned (.int .i64 (high c : Int)) ∧ Below W.heap.size W w') := by
    rintro W lo hi v hd hh x rfl
    exact dHigh_any c v lo hi W hd hh (by omega)
  have HDid : Aside (∀ W lo hi v, DT W lo hi c v → hi ≤ W.heap.size → ∀ {x}, nod c = x → Calls Tryd.prog 15 #[tree x v] W fun e w' => e = .returned (.bool (idB c)) ∧ Below W.heap.size W w') := by
    rintro W lo hi v hd hh x rfl
    exact dId_any c v lo hi W hd hh
  have cgF : ∀ W, Calls Tryd.prog 16 #[.string f] W fun e w' => e = .returned (.bool (isT f)) ∧ w' = W := T3.good16_any f
  have cgT : ∀ W, Calls Tryd.prog 16 #[.string t] W fun e w' => e = .returned (.bool (isT t)) ∧ w' = W := T3.good16_any t
  rw [hF] at cgF HFi
  rw [hG] at cgT HFi
  simp only [Bool.false_and, Bool.and_false] at HFi
  clear hF hG
  have hHH : (((high c : Nat) : Int) != ((high c : Nat) : Int)) = false := by simp
  have hII : (idB c != idB c) = false := by simp
  clear hn h hhi
  generalize high c = Hc at *
  generalize idB c = Ic at *
  have HWc : Aside (∀ W g, Wide W g l → IsCos W (.slice (some ⟨g, 0, none⟩) l.length (l.length + 64)) l) := fun W g hv => hv.cos
  generalize l.length = n at *
  go_enter Tryd.func4, Tryd.ntmps4
  go_wp2_with (go_at_call 11; refine (cl _).mono ?_; rintro e w1 ⟨rfl, hw1⟩; replace hw1 := hw1.symm; subst hw1)
  refine cW.mono ?_
  rintro e w2 ⟨rfl, hW2, hB2⟩
  have HW : Aside (Wide w2 w.heap.size l) := hW2
  clear cW hW2 cl
  go_wp2_with fail
  refine (cR _ hB2).mono ?_
  rintro e w3 ⟨⟨kv, rfl, hdt⟩, hB, hB3⟩
  have HW : Aside (Wide w3 w.heap.size l) := HW.out.below hB3
  obtain ⟨da, dn, dc, rfl⟩ : ∃ da dn dc, kv = .slice da dn dc := by
    obtain ⟨da, dc, ks', e, -⟩ := hdt.row
    exact ⟨da, _, dc, e⟩
  obtain ⟨x, hx⟩ : ∃ x, x = nod c := ⟨_, rfl⟩
  rw [← hx]
  obtain ⟨w4, hw4⟩ : ∃ w4, w4 = w3.alloc (.cells #[.int .i8 x.op, .int .i64 x.proj, .bool x.inj, .int .u8 x.head, .int .i64 x.label, .int .u8 x.frm, .int .u8 x.tto, .slice da dn dc] 36) := ⟨_, rfl⟩
  have hB34 : Below w3.heap.size w3 w4 := by rw [hw4]; exact below_al (Below.refl _ _) (Nat.le_refl _) _
  have HT : Aside (∀ W, Below w4.heap.size w4 W → W.cell? ⟨w3.heap.size, 0, none⟩ = some (.int .i8 x.op) ∧ W.cell? ⟨w3.heap.size, 1, none⟩ = some (.int .i64 x.proj) ∧ W.cell? ⟨w3.heap.size, 2, none⟩ = some (.bool x.inj) ∧ W.cell? ⟨w3.heap.size, 3, none⟩ = some (.int .u8 x.head) ∧ W.cell? ⟨w3.heap.size, 4, none⟩ = some (.int .i64 x.label) ∧ W.cell? ⟨w3.heap.size, 5, none⟩ = some (.int .u8 x.frm) ∧ W.cell? ⟨w3.heap.size, 6, none⟩ = some (.int .u8 x.tto) ∧ W.cell? ⟨w3.heap.size, 7, none⟩ = some (.slice da dn dc)) := by
    intro W hW
    have e : ∀ o, W.cell? ⟨w3.heap.size, o, none⟩ = w4.cell? ⟨w3.heap.size, o, none⟩ := fun o => hW.cell (p := ⟨w3.heap.size, o, none⟩) (by rw [hw4]; simp)
    simp only [e]
    rw [hw4]; simp
  have HDT : Aside (∀ W, Below w4.heap.size w4 W → DT W w2.heap.size w3.heap.size c (.slice da dn dc) ∧ w3.heap.size ≤ W.heap.size) := fun W hW =>
    ⟨hdt.below (Nat.le_refl _) (hB34.trans (hW.mono hB34.size)), (hB34.trans (hW.mono hB34.size)).size⟩
  have HX : Aside (nod c = x) := hx.symm
  clear hdt hx hB2 hB3 cR
  go_upto_region 7 with fail
  rw [← hw4]
  have HW : Aside (Wide w4 w.heap.size l) := HW.out.below hB34
  replace hB : Below w.heap.size w w4 := hB.trans (hB34.mono hB.size)
  clear hB34
  have hC := Below.refl w4.heap.size w4
  generalize w3.heap.size = K3 at *
  clear hw4
  obtain ⟨t0, t1, t2, t3, t4, t5, t6, t7⟩ := HT.out _ hC
  go_wp2_with fail
  refine (HHigh.out _ _ _ _ (HDT.out _ hC).1 (HDT.out _ hC).2 HX.out).mono ?_
  rintro e w5 ⟨rfl, hB5⟩
  have HW : Aside (Wide w5 w.heap.size l) := HW.out.below hB5
  replace hB : Below w.heap.size w w5 := hB.trans (hB5.mono hB.size)
  replace hC : Below w4.heap.size w4 w5 := hC.trans hB5
  clear t0 t1 t2 t3 t4 t5 t6 t7 hB5
  obtain ⟨t0, t1, t2, t3, t4, t5, t6, t7⟩ := HT.out _ hC
  go_wp2_with fail
  refine (HDid.out _ _ _ _ (HDT.out _ hC).1 (HDT.out _ hC).2 HX.out).mono ?_
  rintro e w6 ⟨rfl, hB6⟩
  have HW : Aside (Wide w6 w.heap.size l) := HW.out.below hB6
  replace hB : Below w.heap.size w w6 := hB.trans (hB6.mono hB.size)
  replace hC : Below w4.heap.size w4 w6 := hC.trans (hB6.mono hC.size)
  clear t0 t1 t2 t3 t4 t5 t6 t7 hB6
  go_wp2_with (first | (go_at_call 16; with_reducible refine (cgF _).mono ?_; rintro e w' ⟨rfl, hw'⟩; replace hw' := hw'.symm; subst hw'; clear cgF) | (go_at_call 16; with_reducible refine (cgT _).mono ?_; rintro e w' ⟨rfl, hw'⟩; replace hw' := hw'.symm; subst hw'; clear cgT))
  go_wp2_with fail
  refine (HMay.out _ _ hB (HWc.out _ _ HW.out)).mono ?_
  rintro e w10 ⟨rfl, hB', hB''⟩
  have HW : Aside (Wide w10 w.heap.size l) := HW.out.below hB''
  replace hB := hB'
  clear hB' hB''
  go_wp2_with fail
  refine (HHi.out _ _ hB (HWc.out _ _ HW.out)).mono ?_
  rintro e w11 ⟨rfl, hB', hB''⟩
  have HW : Aside (Wide w11 w.heap.size l) := HW.out.below hB''
  replace hB := hB'
  clear hB' hB''
  go_wp2_with fail
  refine (HId.out _ _ hB (HWc.out _ _ HW.out)).mono ?_
  rintro e w12 ⟨rfl, hB', hB''⟩
  have HW : Aside (Wide w12 w.heap.size l) := HW.out.below hB''
  replace hB := hB'
  clear hB' hB''
  go_wp2_with fail
  refine (HFi.out _ _ hB (HWc.out _ _ HW.out)).mono ?_
  rintro e w13 ⟨rfl, hB', hB''⟩
  have HW : Aside (Wide w13 w.heap.size l) := HW.out.below hB''
  replace hB := hB'
  clear hB' hB''
  go_wp2_with fail
  refine (HEq.out _ _ hB (HWc.out _ _ HW.out)).mono ?_
  rintro e w14 ⟨rfl, hB', hB''⟩
  have HW : Aside (Wide w14 w.heap.size l) := HW.out.below hB''
  replace hB := hB'
  clear hB' hB''
  go_wp2_with fail
  refine (HSp.out _ _ hB HW.out).mono ?_
  rintro e w15 ⟨rfl, hB⟩
  go_wp2_with fail
  refine (cw _ hB).mono ?_
  rintro e w16 ⟨rfl, hB⟩
  go_wp2_with fail
  go_ret
  exact ⟨rfl, hB⟩
set_option maxHeartbeats 3200000 in
theorem mays_g (l : List N) (c : C) (v : Value) (f t : ByteArray) (w : World) (h : IsCos w v l) (hl : l.length ≤ 16384) (hn : Cc.whole l = some c) (hF : isT f = true) (hG : isT t = true) :
    Calls Tryd.prog 4 #[v, .string f, .string t] w fun e w' => e = .returned (.bool true) ∧ Below w.heap.size w w' := by
  obtain ⟨a, cp, rfl⟩ := h.form
  have cl := longC_any a l.length cp
  rw [decide_eq_false (by omega)] at cl
  have cw := worksM_at w
  have cW := wideCos_any l (by omega) _ w h
  have cR : ∀ W, Below w.heap.size w W → Calls Tryd.prog 13 #[.slice a l.length cp] W fun e w' => RrEnd W (Cc.whole l) e w' ∧ Below w.heap.size w w' ∧ Below W.heap.size W w' := fun W hW =>
    (dRead_any l _ W (h.below hW) (by omega)).mono (by rintro e w' ⟨hE, hB⟩; exact ⟨hE, hW.trans (hB.mono hW.size), hB⟩)
  have HV : Aside (IsCos w (.slice a l.length cp) l) := h
  have HMay : Aside (∀ W v', Below w.heap.size w W → IsCos W v' l → Calls Tryd.prog 18 #[v'] W fun e w' => e = .returned (.bool (Cc.whole l).isSome) ∧ Below w.heap.size w w' ∧ Below W.heap.size W w') := fun W v' hW hv =>
    (May_any l v' W hv (by omega)).mono (by rintro e w' ⟨rfl, hB⟩; exact ⟨rfl, hW.trans (hB.mono hW.size), hB⟩)
  have HHi : Aside (∀ W v', Below w.heap.size w W → IsCos W v' l → Calls Tryd.prog 19 #[v'] W fun e w' => e = .returned (.int .i64 (high0 (Cc.whole l) : Int)) ∧ Below w.heap.size w w' ∧ Below W.heap.size W w') := fun W v' hW hv =>
    (Height_any l v' W hv (by omega)).mono (by rintro e w' ⟨rfl, hB⟩; exact ⟨rfl, hW.trans (hB.mono hW.size), hB⟩)
  have HId : Aside (∀ W v', Below w.heap.size w W → IsCos W v' l → Calls Tryd.prog 20 #[v'] W fun e w' => e = .returned (.bool (id0 (Cc.whole l))) ∧ Below w.heap.size w w' ∧ Below W.heap.size W w') := fun W v' hW hv =>
    (IsId_any l v' W hv (by omega)).mono (by rintro e w' ⟨rfl, hB⟩; exact ⟨rfl, hW.trans (hB.mono hW.size), hB⟩)
  have HFi : Aside (∀ W v', Below w.heap.size w W → IsCos W v' l → Calls Tryd.prog 21 #[v', .string f, .string t] W fun e w' => e = .returned (.bool (fitB (Cc.whole l) f t)) ∧ Below w.heap.size w w' ∧ Below W.heap.size W w') := fun W v' hW hv =>
    (Fits_any l v' W hv (by omega) f t).mono (by rintro e w' ⟨rfl, hB⟩; exact ⟨rfl, hW.trans (hB.mono hW.size), hB⟩)
  have HEq : Aside (∀ W v', Below w.heap.size w W → IsCos W v' l → Calls Tryd.prog 9 #[v', .slice a l.length cp] W fun e w' => e = .returned (.bool true) ∧ Below w.heap.size w w' ∧ Below W.heap.size W w') := fun W v' hW hv => by
    refine (eqCos_any l l v' _ W hv (HV.out.below hW) (by omega) (by omega)).mono ?_
    rintro e w' ⟨rfl, hB⟩
    exact ⟨ret_b (by simp), hW.trans (hB.mono hW.size), hB⟩
  have HSp : Aside (∀ W g, Below w.heap.size w W → Wide W g l → Calls Tryd.prog 22 #[.slice (some ⟨g, 0, none⟩) l.length (l.length + 64)] W fun e w' => e = .returned (.bool true) ∧ Below w.heap.size w w') := fun W g hW hv =>
    (spareCos_any l (by omega) g W hv).mono (by rintro e w' ⟨rfl, hB⟩; exact ⟨rfl, hW.trans (hB.mono hW.size)⟩)
  rw [hn] at HMay HHi HId HFi cR
  simp only [Option.isSome_some, high0, id0, fitB] at HMay HHi HId HFi
  have hhi : high c ≤ 64 := (whole_iff.1 hn).2.2
  have HHigh : Aside (∀ W lo hi v, DT W lo hi c v → hi ≤ W.heap.size → ∀ {x}, nod c = x → Calls Tryd.prog 14 #[tree x v] W fun e w' => e = .returned (.int .i64 (high c : Int)) ∧ Below W.heap.size W w') := by
    rintro W lo hi v hd hh x rfl
    exact dHigh_any c v lo hi W hd hh (by omega)
  have HDid : Aside (∀ W lo hi v, DT W lo hi c v → hi ≤ W.heap.size → ∀ {x}, nod c = x → Calls Tryd.prog 15 #[tree x v] W fun e w' => e = .returned (.bool (idB c)) ∧ Below W.heap.size W w') := by
    rintro W lo hi v hd hh x rfl
    exact dId_any c v lo hi W hd hh
  have cgF : ∀ W, Calls Tryd.prog 16 #[.string f] W fun e w' => e = .returned (.bool (isT f)) ∧ w' = W := T3.good16_any f
  have cgT : ∀ W, Calls Tryd.prog 16 #[.string t] W fun e w' => e = .returned (.bool (isT t)) ∧ w' = W := T3.good16_any t
  obtain ⟨tf, rfl, hlf, hdf⟩ := isT_dec hF
  obtain ⟨tg, rfl, hlg, hdg⟩ := isT_dec hG
  rw [hF] at cgF HFi
  rw [hG] at cgT HFi
  have hFi : (true && (true && goT c (decT (sT tf).data.toList) (decT (sT tg).data.toList))) = goT c tf tg := by rw [hdf, hdg]; rfl
  rw [hFi] at HFi
  have HGo : Aside (∀ W lo hi v, DT W lo hi c v → hi ≤ W.heap.size → ∀ {x}, nod c = x → Calls Tryd.prog 17 #[tree x v, .string (sT tf), .string (sT tg)] W fun e w' => e = .returned (.bool (goT c tf tg)) ∧ Below W.heap.size W w') := by
    rintro W lo hi v hd hh x rfl
    exact dGoesP_any c v lo hi W tf tg hd hh hlf hlg
  have hGG : (goT c tf tg != goT c tf tg) = false := by simp
  clear hFi hF hG hdf hdg hlf hlg
  generalize goT c tf tg = Gc at *
  generalize sT tf = f at *
  generalize sT tg = t at *
  have hHH : (((high c : Nat) : Int) != ((high c : Nat) : Int)) = false := by simp
  have hII : (idB c != idB c) = false := by simp
  clear hn h hhi
  generalize high c = Hc at *
  generalize idB c = Ic at *
  have HWc : Aside (∀ W g, Wide W g l → IsCos W (.slice (some ⟨g, 0, none⟩) l.length (l.length + 64)) l) := fun W g hv => hv.cos
  generalize l.length = n at *
  go_enter Tryd.func4, Tryd.ntmps4
  go_wp2_with (go_at_call 11; refine (cl _).mono ?_; rintro e w1 ⟨rfl, hw1⟩; replace hw1 := hw1.symm; subst hw1)
  refine cW.mono ?_
  rintro e w2 ⟨rfl, hW2, hB2⟩
  have HW : Aside (Wide w2 w.heap.size l) := hW2
  clear cW hW2 cl
  go_wp2_with fail
  refine (cR _ hB2).mono ?_
  rintro e w3 ⟨⟨kv, rfl, hdt⟩, hB, hB3⟩
  have HW : Aside (Wide w3 w.heap.size l) := HW.out.below hB3
  obtain ⟨da, dn, dc, rfl⟩ : ∃ da dn dc, kv = .slice da dn dc := by
    obtain ⟨da, dc, ks', e, -⟩ := hdt.row
    exact ⟨da, _, dc, e⟩
  obtain ⟨x, hx⟩ : ∃ x, x = nod c := ⟨_, rfl⟩
  rw [← hx]
  obtain ⟨w4, hw4⟩ : ∃ w4, w4 = w3.alloc (.cells #[.int .i8 x.op, .int .i64 x.proj, .bool x.inj, .int .u8 x.head, .int .i64 x.label, .int .u8 x.frm, .int .u8 x.tto, .slice da dn dc] 36) := ⟨_, rfl⟩
  have hB34 : Below w3.heap.size w3 w4 := by rw [hw4]; exact below_al (Below.refl _ _) (Nat.le_refl _) _
  have HT : Aside (∀ W, Below w4.heap.size w4 W → W.cell? ⟨w3.heap.size, 0, none⟩ = some (.int .i8 x.op) ∧ W.cell? ⟨w3.heap.size, 1, none⟩ = some (.int .i64 x.proj) ∧ W.cell? ⟨w3.heap.size, 2, none⟩ = some (.bool x.inj) ∧ W.cell? ⟨w3.heap.size, 3, none⟩ = some (.int .u8 x.head) ∧ W.cell? ⟨w3.heap.size, 4, none⟩ = some (.int .i64 x.label) ∧ W.cell? ⟨w3.heap.size, 5, none⟩ = some (.int .u8 x.frm) ∧ W.cell? ⟨w3.heap.size, 6, none⟩ = some (.int .u8 x.tto) ∧ W.cell? ⟨w3.heap.size, 7, none⟩ = some (.slice da dn dc)) := by
    intro W hW
    have e : ∀ o, W.cell? ⟨w3.heap.size, o, none⟩ = w4.cell? ⟨w3.heap.size, o, none⟩ := fun o => hW.cell (p := ⟨w3.heap.size, o, none⟩) (by rw [hw4]; simp)
    simp only [e]
    rw [hw4]; simp
  have HDT : Aside (∀ W, Below w4.heap.size w4 W → DT W w2.heap.size w3.heap.size c (.slice da dn dc) ∧ w3.heap.size ≤ W.heap.size) := fun W hW =>
    ⟨hdt.below (Nat.le_refl _) (hB34.trans (hW.mono hB34.size)), (hB34.trans (hW.mono hB34.size)).size⟩
  have HX : Aside (nod c = x) := hx.symm
  clear hdt hx hB2 hB3 cR
  go_upto_region 7 with fail
  rw [← hw4]
  have HW : Aside (Wide w4 w.heap.size l) := HW.out.below hB34
  replace hB : Below w.heap.size w w4 := hB.trans (hB34.mono hB.size)
  clear hB34
  have hC := Below.refl w4.heap.size w4
  generalize w3.heap.size = K3 at *
  clear hw4
  obtain ⟨t0, t1, t2, t3, t4, t5, t6, t7⟩ := HT.out _ hC
  go_wp2_with fail
  refine (HHigh.out _ _ _ _ (HDT.out _ hC).1 (HDT.out _ hC).2 HX.out).mono ?_
  rintro e w5 ⟨rfl, hB5⟩
  have HW : Aside (Wide w5 w.heap.size l) := HW.out.below hB5
  replace hB : Below w.heap.size w w5 := hB.trans (hB5.mono hB.size)
  replace hC : Below w4.heap.size w4 w5 := hC.trans hB5
  clear t0 t1 t2 t3 t4 t5 t6 t7 hB5
  obtain ⟨t0, t1, t2, t3, t4, t5, t6, t7⟩ := HT.out _ hC
  go_wp2_with fail
  refine (HDid.out _ _ _ _ (HDT.out _ hC).1 (HDT.out _ hC).2 HX.out).mono ?_
  rintro e w6 ⟨rfl, hB6⟩
  have HW : Aside (Wide w6 w.heap.size l) := HW.out.below hB6
  replace hB : Below w.heap.size w w6 := hB.trans (hB6.mono hB.size)
  replace hC : Below w4.heap.size w4 w6 := hC.trans (hB6.mono hC.size)
  clear t0 t1 t2 t3 t4 t5 t6 t7 hB6
  obtain ⟨t0, t1, t2, t3, t4, t5, t6, t7⟩ := HT.out _ hC
  go_wp2_with (first | (go_at_call 16; with_reducible refine (cgF _).mono ?_; rintro e w' ⟨rfl, hw'⟩; replace hw' := hw'.symm; subst hw'; clear cgF) | (go_at_call 16; with_reducible refine (cgT _).mono ?_; rintro e w' ⟨rfl, hw'⟩; replace hw' := hw'.symm; subst hw'; clear cgT))
  refine (HGo.out _ _ _ _ (HDT.out _ hC).1 (HDT.out _ hC).2 HX.out).mono ?_
  rintro e w7 ⟨rfl, hB7⟩
  have HW : Aside (Wide w7 w.heap.size l) := HW.out.below hB7
  replace hB : Below w.heap.size w w7 := hB.trans (hB7.mono hB.size)
  clear t0 t1 t2 t3 t4 t5 t6 t7 hB7
  go_wp2_with fail
  refine (HMay.out _ _ hB (HWc.out _ _ HW.out)).mono ?_
  rintro e w10 ⟨rfl, hB', hB''⟩
  have HW : Aside (Wide w10 w.heap.size l) := HW.out.below hB''
  replace hB := hB'
  clear hB' hB''
  go_wp2_with fail
  refine (HHi.out _ _ hB (HWc.out _ _ HW.out)).mono ?_
  rintro e w11 ⟨rfl, hB', hB''⟩
  have HW : Aside (Wide w11 w.heap.size l) := HW.out.below hB''
  replace hB := hB'
  clear hB' hB''
  go_wp2_with fail
  refine (HId.out _ _ hB (HWc.out _ _ HW.out)).mono ?_
  rintro e w12 ⟨rfl, hB', hB''⟩
  have HW : Aside (Wide w12 w.heap.size l) := HW.out.below hB''
  replace hB := hB'
  clear hB' hB''
  go_wp2_with fail
  refine (HFi.out _ _ hB (HWc.out _ _ HW.out)).mono ?_
  rintro e w13 ⟨rfl, hB', hB''⟩
  have HW : Aside (Wide w13 w.heap.size l) := HW.out.below hB''
  replace hB := hB'
  clear hB' hB''
  go_wp2_with fail
  refine (HEq.out _ _ hB (HWc.out _ _ HW.out)).mono ?_
  rintro e w14 ⟨rfl, hB', hB''⟩
  have HW : Aside (Wide w14 w.heap.size l) := HW.out.below hB''
  replace hB := hB'
  clear hB' hB''
  go_wp2_with fail
  refine (HSp.out _ _ hB HW.out).mono ?_
  rintro e w15 ⟨rfl, hB⟩
  go_wp2_with fail
  refine (cw _ hB).mono ?_
  rintro e w16 ⟨rfl, hB⟩
  go_wp2_with fail
  go_ret
  exact ⟨rfl, hB⟩
theorem mays_any (l : List N) (v : Value) (f t : ByteArray) (w : World) (h : IsCos w v l) :
    Calls Tryd.prog 4 #[v, .string f, .string t] w fun e w' => e = .returned (.bool true) ∧ Below w.heap.size w w' := by
  by_cases hl : 16384 < l.length
  · exact mays_long l v f t w h hl
  · cases hn : Cc.whole l with
    | none => exact mays_none l v f t w h (by omega) hn
    | some c =>
      cases hF : isT f
      · exact mays_f l c v f t w h (by omega) hn hF
      · cases hG : isT t
        · exact mays_t l c v f t w h (by omega) hn hF hG
        · exact mays_g l c v f t w h (by omega) hn hF hG
end Go.Proofs.YtaaokecdmbmgbaaDoor
