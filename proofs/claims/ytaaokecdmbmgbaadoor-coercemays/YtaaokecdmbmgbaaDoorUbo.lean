/- The document's Goes: a function. -/
import Derived.Test.YtaaokecdmbmgbaaDoorUbj
import Derived.Test.YtaaokecdmbmgbaaDoorUaz
namespace Go.Proofs.YtaaokecdmbmgbaaDoor
open Go.RowKit Cc
set_option maxRecDepth 100000
set_option linter.unusedSimpArgs false
set_option linter.unusedVariables false
set_option maxHeartbeats 6400000 in
theorem dGoes_fn (p : Int) (j : Bool) (a d : C) (hKa : DgC a) (hKd : DgC d) : DgC (.tw .fn p j a d) := by
  intro v lo hi w f t hd hh hf ht
  obtain ⟨g, cap, ka, kb, rfl, hg1, hg2, hR8, hda, hdb⟩ := hd
  have hA0 : At8 w g 0 (nod a) ka := by have := hR8.at (k := 0) (c := a) (kv := ka) rfl; simpa using this
  have hA1 : At8 w g 8 (nod d) kb := by have := hR8.at (k := 1) (c := d) (kv := kb) rfl; simpa using this
  obtain ⟨aa, an, ac, rfl⟩ : ∃ da dn dc, ka = .slice da dn dc := by
    obtain ⟨da, dc, ks', e, -⟩ := hda.row
    exact ⟨da, _, dc, e⟩
  obtain ⟨ba, bn, bc, rfl⟩ : ∃ da dn dc, kb = .slice da dn dc := by
    obtain ⟨da, dc, ks', e, -⟩ := hdb.row
    exact ⟨da, _, dc, e⟩
  have hgw : g < w.heap.size := by omega
  have HA0 : Aside (∀ W, Below w.heap.size w W → At8 W g 0 (nod a) (.slice aa an ac)) := fun W hW => by
    have e : ∀ o, W.cell? ⟨g, o, none⟩ = w.cell? ⟨g, o, none⟩ := fun o => hW.cell (p := ⟨g, o, none⟩) hgw
    have h0 := hA0
    unfold At8 at h0 ⊢
    simp only [e]
    exact h0
  have HA1 : Aside (∀ W, Below w.heap.size w W → At8 W g 8 (nod d) (.slice ba bn bc)) := fun W hW => by
    have e : ∀ o, W.cell? ⟨g, o, none⟩ = w.cell? ⟨g, o, none⟩ := fun o => hW.cell (p := ⟨g, o, none⟩) hgw
    have h0 := hA1
    unfold At8 at h0 ⊢
    simp only [e]
    exact h0
  have cA : ∀ W, Below w.heap.size w W → Calls Tryd.prog 17 #[tree (nod a) (.slice aa an ac), .string (sT (kd j 0 t)), .string (sT (kd (p != 0) 0 f))] W fun e w' => e = .returned (.bool (goT a (kd j 0 t) (kd (p != 0) 0 f))) ∧ Below W.heap.size W w' := fun W hW =>
    hKa _ lo hi W (kd j 0 t) (kd (p != 0) 0 f) (hda.below hh hW) (Nat.le_trans hh hW.size) (kd_len ht) (kd_len hf)
  have cD : ∀ W, Below w.heap.size w W → Calls Tryd.prog 17 #[tree (nod d) (.slice ba bn bc), .string (sT (kd (p != 0) 1 f)), .string (sT (kd j 1 t))] W fun e w' => e = .returned (.bool (goT d (kd (p != 0) 1 f) (kd j 1 t))) ∧ Below W.heap.size W w' := fun W hW =>
    hKd _ lo hi W (kd (p != 0) 1 f) (kd j 1 t) (hdb.below hh hW) (Nat.le_trans hh hW.size) (kd_len hf) (kd_len ht)
  clear hR8 hda hdb hA0 hA1 hKa hKd
  rw [show nod (.tw .fn p j a d) = ⟨3, p, j, 62, 0, 0, 0⟩ from rfl]
  have q1 : ((sT f).toList == [63]) = T3.Tp.isq f := T3.Tp.isq_S f
  have q2 : ((sT t).toList == [63]) = T3.Tp.isq t := T3.Tp.isq_S t
  have cg := dGround_any ((.tw .fn))
  obtain ⟨F, hF⟩ : ∃ F, F = endT (p != 0) ((.tw .fn)) f := ⟨_, rfl⟩
  obtain ⟨Gt, hGt⟩ : ∃ G, G = endT j ((.tw .fn)) t := ⟨_, rfl⟩
  have hFl : (T3.Tp.enc F).length ≤ 64 := by rw [hF]; exact endT_len hf
  have hGl : (T3.Tp.enc Gt).length ≤ 64 := by rw [hGt]; exact endT_len ht
  have HS1 : Aside (p = 0 → F = f ∧ sideB (p != 0) ((.tw .fn)) f = decide (hdI F = hB ((.tw .fn)))) := by
    rintro rfl
    have : F = f := hF
    exact ⟨this, by rw [this]; rfl⟩
  have HS2 : Aside (p ≠ 0 → F = gT ((.tw .fn)) ∧ (T3.Tp.isq f = true → sideB (p != 0) ((.tw .fn)) f = decide (hdI F = hB ((.tw .fn)))) ∧ (T3.Tp.isq f = false → sideB (p != 0) ((.tw .fn)) f = false)) := by
    intro hp
    have hp' : (p != 0) = true := by simpa using hp
    have e1 : F = gT ((.tw .fn)) := by rw [hF, hp']; rfl
    refine ⟨e1, fun h => ?_, fun h => ?_⟩
    · rw [e1, gT_hd, hp']; simpa [sideB, isq_iff] using h
    · rw [hp']; simpa [sideB, isq_iff] using h
  have HG : Aside (goT (.tw .fn p j a d) f t = (sideB (p != 0) (.tw .fn) f && (sideB j (.tw .fn) t && (goT a (kd j 0 t) (kd (p != 0) 0 f) && goT d (kd (p != 0) 1 f) (kd j 1 t))))) := rfl
  generalize goT (.tw .fn p j a d) f t = G at *
  obtain ⟨hF1, hF2⟩ := sT_head F
  go_enter Tryd.func17, Tryd.ntmps17
  go_upto_region 3 with fail
  obtain ⟨W0, hW0⟩ : ∃ W0, W0 = w.alloc (.cells #[.int .i8 3, .int .i64 p, .bool j, .int .u8 62, .int .i64 0, .int .u8 0, .int .u8 0, .slice (some ⟨g, 0, none⟩) 2 cap] 36) := ⟨_, rfl⟩
  have hB0 : Below w.heap.size w W0 := by rw [hW0]; exact (Below.refl _ _).alloc (Nat.le_refl _) _
  have hT : W0.cell? ⟨w.heap.size, 0, none⟩ = some (.int .i8 3) ∧ W0.cell? ⟨w.heap.size, 1, none⟩ = some (.int .i64 p) ∧ W0.cell? ⟨w.heap.size, 2, none⟩ = some (.bool j) ∧ W0.cell? ⟨w.heap.size, 3, none⟩ = some (.int .u8 62) ∧ W0.cell? ⟨w.heap.size, 7, none⟩ = some (.slice (some ⟨g, 0, none⟩) 2 cap) ∧ w.heap.size < W0.heap.size := by rw [hW0]; simp
  rw [← hW0]
  clear hW0
  obtain ⟨t0, t1, t2, t3, t7, t8⟩ := hT
  have HT : Aside (∀ W, Below W0.heap.size W0 W → W.cell? ⟨w.heap.size, 0, none⟩ = some (.int .i8 3) ∧ W.cell? ⟨w.heap.size, 2, none⟩ = some (.bool j) ∧ W.cell? ⟨w.heap.size, 3, none⟩ = some (.int .u8 62) ∧ W.cell? ⟨w.heap.size, 7, none⟩ = some (.slice (some ⟨g, 0, none⟩) 2 cap)) := fun W h =>
    ⟨(h.cell (p := ⟨w.heap.size, 0, none⟩) t8).trans t0, (h.cell (p := ⟨w.heap.size, 2, none⟩) t8).trans t2, (h.cell (p := ⟨w.heap.size, 3, none⟩) t8).trans t3, (h.cell (p := ⟨w.heap.size, 7, none⟩) t8).trans t7⟩
  clear t0 t2 t7
  go_upto_if 21 with fail
  go_cut [1] (fun s1 wc => s1 = .string (sT F) ∧ Below W0.heap.size W0 wc ∧ Aside (sideB (p != 0) ((.tw .fn)) f = decide (hdI F = hB ((.tw .fn)))))
  case first =>
    by_cases hp : p = 0
    · have hp' : (p != 0) = false := by simp [hp]
      have e1 := (HS1.out hp).1
      have e2 := (HS1.out hp).2
      have HE : Aside (sideB (p != 0) ((.tw .fn)) f = decide (hdI F = hB ((.tw .fn))) ∧ F = f) := ⟨e2, e1⟩
      clear e1 e2 hp HS1 HS2
      go_wp2_with fail
      go_meet
      case rel => exact ⟨by rw [HE.out.2], Below.refl _ _, HE.out.1⟩
    · have hp' : (p != 0) = true := by simpa using hp
      obtain ⟨e1, e2, e3⟩ := HS2.out hp
      cases hq : T3.Tp.isq f
      · rw [hq] at q1
        have HE : Aside (G = false) := by rw [Aside, HG.out, e3 hq]; first | done | rfl
        clear e1 e2 e3 hq hp HS1 HS2
        go_wp2_with fail
        go_ret
        exact ⟨ret_b HE.out.symm, hB0⟩
      · rw [hq] at q1
        have HE : Aside (sideB (p != 0) ((.tw .fn)) f = decide (hdI F = hB ((.tw .fn))) ∧ F = gT ((.tw .fn))) := ⟨e2 hq, e1⟩
        clear e1 e2 e3 hq hp HS1 HS2
        go_wp2_with (go_at_call 40; refine (cg _).mono ?_; rintro e w1 ⟨rfl, hB1⟩)
        go_meet
        case rel => exact ⟨by rw [HE.out.2], hB1, HE.out.1⟩
  case rest =>
    obtain ⟨rfl, hBc, HSF⟩ := hcut
    generalize wc = wa at *
    obtain ⟨t0, t2, t3, t7⟩ := HT.out wa hBc
    have hF1' : (0 : Int) < ((sT F).size : Int) := by omega
    have hF3 := hF2 hF1
    clear hF2 t1 q1 HS1 HS2
    by_cases hFh : hdI F = 62
    · have hne : ((((sT F)[0]'hF1).toNat : Int) != 62) = false := by rw [hF3]; simpa using hFh
      have HSF' : Aside (sideB (p != 0) ((.tw .fn)) f = true) := by rw [Aside, HSF.out]; exact decide_eq_true hFh
      have HBw : Aside (Below w.heap.size w wa) := hB0.trans (hBc.mono hB0.size)
      have HFk : Aside (hdI F = hB ((.tw .fn))) := hFh
      have hFh9 : hdI F = hB ((.tw .fn)) := hFh
      have pF0 : ∀ W, Calls Tryd.prog 41 #[.string (sT F), .int .i64 0] W fun e w' => e = .returned (.string (sT (kd (p != 0) 0 f))) ∧ w' = W := fun W => by
        have := partD_any F 0 (by rw [hd_kids (h := (.tw .fn)) (by assumption)]; decide) hFl W
        rwa [show kd false 0 F = kd (p != 0) 0 f by rw [hF]; exact endT_kd (by decide)] at this
      have pF1 : ∀ W, Calls Tryd.prog 41 #[.string (sT F), .int .i64 1] W fun e w' => e = .returned (.string (sT (kd (p != 0) 1 f))) ∧ w' = W := fun W => by
        have := partD_any F 1 (by rw [hd_kids (h := (.tw .fn)) (by assumption)]; decide) hFl W
        rwa [show kd false 1 F = kd (p != 0) 1 f by rw [hF]; exact endT_kd (by decide)] at this
      clear hFh9
      clear hF3 hFh t7 t2 HSF
      obtain ⟨hG1, hG2⟩ := sT_head Gt
      generalize sT F = sF at *
      have HJ : Aside (∀ W, Below wa.heap.size wa W → W.cell? ⟨w.heap.size, 0, none⟩ = some (.int .i8 3) ∧ W.cell? ⟨w.heap.size, 2, none⟩ = some (.bool j) ∧ W.cell? ⟨w.heap.size, 3, none⟩ = some (.int .u8 62) ∧ W.cell? ⟨w.heap.size, 7, none⟩ = some (.slice (some ⟨g, 0, none⟩) 2 cap)) := fun W h => HT.out W (hBc.trans (h.mono hBc.size))
      clear HT
      have t2 := (HJ.out wa (Below.refl _ _)).2.1
      go_upto_region 7 with fail
      go_quiet (fail)
      go_upto_if 40 with fail
      go_cut [2] (fun s2 wd => s2 = .string (sT Gt) ∧ Below wa.heap.size wa wd ∧ Aside (sideB j ((.tw .fn)) t = decide (hdI Gt = hB ((.tw .fn)))))
      case first =>
        clear t0
        cases j
        · have HE : Aside (sideB false ((.tw .fn)) t = decide (hdI Gt = hB ((.tw .fn))) ∧ Gt = t) := by
            have : Gt = t := hGt
            exact ⟨by rw [this]; rfl, this⟩
          clear hGt
          go_wp2_with fail
          go_meet
          case rel => exact ⟨by rw [HE.out.2], by first | exact Below.refl _ _ | exact below_dN (Below.refl _ _) _, HE.out.1⟩
        · have e1 : Gt = gT ((.tw .fn)) := hGt
          cases hq : T3.Tp.isq t
          · rw [hq] at q2
            have HE : Aside (G = false) := by rw [Aside, HG.out, HSF'.out, show sideB true ((.tw .fn)) t = false by simpa [sideB, isq_iff] using hq]; first | done | rfl
            clear e1 hq hGt
            go_wp2_with fail
            go_ret
            exact ⟨ret_b HE.out.symm, by first | exact HBw.out | exact below_dN HBw.out _⟩
          · rw [hq] at q2
            have HE : Aside (sideB true ((.tw .fn)) t = decide (hdI Gt = hB ((.tw .fn))) ∧ Gt = gT ((.tw .fn))) := ⟨by rw [e1, gT_hd]; simpa [sideB, isq_iff] using hq, e1⟩
            clear e1 hq hGt
            go_wp2_with (go_at_call 40; refine (cg _).mono ?_; rintro e w1 ⟨rfl, hB1⟩)
            go_meet
            case rel => exact ⟨by rw [HE.out.2], by first | exact hB1 | exact (below_dN (Below.refl _ _) _).trans (hB1.mono (Nat.le_refl _)), HE.out.1⟩
      case rest =>
        obtain ⟨rfl, hBd, HSG⟩ := hcut
        obtain ⟨t0, t2, t3, t7⟩ := HJ.out wc hBd
        have hG1' : (0 : Int) < ((sT Gt).size : Int) := by omega
        have hG3 := hG2 hG1
        clear hG2 q2
        by_cases hGh : hdI Gt = 62
        · have hne : ((((sT Gt)[0]'hG1).toNat : Int) != 62) = false := by rw [hG3]; simpa using hGh
          have HSG' : Aside (sideB j ((.tw .fn)) t = true) := by rw [Aside, HSG.out]; exact decide_eq_true hGh
          have HGk : Aside (hdI Gt = hB ((.tw .fn))) := hGh
          have HBx : Aside (Below w.heap.size w wc) := HBw.out.trans (hBd.mono HBw.out.size)
          have hGh9 : hdI Gt = hB ((.tw .fn)) := hGh
          have pG0 : ∀ W, Calls Tryd.prog 41 #[.string (sT Gt), .int .i64 0] W fun e w' => e = .returned (.string (sT (kd (j) 0 t))) ∧ w' = W := fun W => by
            have := partD_any Gt 0 (by rw [hd_kids (h := (.tw .fn)) (by assumption)]; decide) hGl W
            rwa [show kd false 0 Gt = kd (j) 0 t by rw [hGt]; exact endT_kd (by decide)] at this
          have pG1 : ∀ W, Calls Tryd.prog 41 #[.string (sT Gt), .int .i64 1] W fun e w' => e = .returned (.string (sT (kd (j) 1 t))) ∧ w' = W := fun W => by
            have := partD_any Gt 1 (by rw [hd_kids (h := (.tw .fn)) (by assumption)]; decide) hGl W
            rwa [show kd false 1 Gt = kd (j) 1 t by rw [hGt]; exact endT_kd (by decide)] at this
          clear hGh9
          clear hG3 hGh HSG
          generalize sT Gt = sG at *
          go_upto_region 15 with fail
          go_quiet (fail)
          clear t0 t2 t3 t7
          go_upto_region 17 with fail
          obtain ⟨wx, hwx⟩ : ∃ wx, wx = wc.drewN nq := ⟨_, rfl⟩
          rw [← hwx]
          have HBy : Aside (Below w.heap.size w wx) := by rw [Aside, hwx]; exact below_dN HBx.out _
          have hBe : Below wa.heap.size wa wx := by rw [hwx]; exact below_dN hBd _
          clear hwx
          obtain ⟨t0, t2, t3, t7⟩ := HJ.out wx hBe
          have HE : Aside (G = (goT a (kd j 0 t) (kd (p != 0) 0 f) && goT d (kd (p != 0) 1 f) (kd j 1 t))) := by rw [Aside, HG.out, HSF'.out, HSG'.out]; rfl
          generalize goT a (kd j 0 t) (kd (p != 0) 0 f) = I1 at *
          generalize goT d (kd (p != 0) 1 f) (kd j 1 t) = I2 at *
          generalize sT (kd (p != 0) 0 f) = sa0 at *
          generalize sT (kd j 0 t) = sb0 at *
          generalize sT (kd (p != 0) 1 f) = sa1 at *
          generalize sT (kd j 1 t) = sb1 at *
          generalize nod a = xa at *
          generalize nod d = xd at *
          have HKC : Aside (∀ W, Below wx.heap.size wx W → W.cell? ⟨w.heap.size, 7, none⟩ = some (.slice (some ⟨g, 0, none⟩) 2 cap)) := fun W h => (HJ.out W (hBe.trans (h.mono hBe.size))).2.2.2
          clear t2 t3 HG HSF' HSG' HJ hBe hF hGt t7
          go_upto_region 19 with fail
          have hstep : ∀ W w' : World, Below wx.heap.size wx W → Below W.heap.size W w' → (w'.cell? ⟨w.heap.size, 7, none⟩ = some (.slice (some ⟨g, 0, none⟩) 2 cap) ∧ w'.cell? ⟨g, 0, none⟩ = some (.int .i8 xa.op) ∧ w'.cell? ⟨g, 1, none⟩ = some (.int .i64 xa.proj) ∧ w'.cell? ⟨g, 2, none⟩ = some (.bool xa.inj) ∧ w'.cell? ⟨g, 3, none⟩ = some (.int .u8 xa.head) ∧ w'.cell? ⟨g, 4, none⟩ = some (.int .i64 xa.label) ∧ w'.cell? ⟨g, 5, none⟩ = some (.int .u8 xa.frm) ∧ w'.cell? ⟨g, 6, none⟩ = some (.int .u8 xa.tto) ∧ w'.cell? ⟨g, 7, none⟩ = some (.slice aa an ac) ∧ w'.cell? ⟨g, 8, none⟩ = some (.int .i8 xd.op) ∧ w'.cell? ⟨g, 9, none⟩ = some (.int .i64 xd.proj) ∧ w'.cell? ⟨g, 10, none⟩ = some (.bool xd.inj) ∧ w'.cell? ⟨g, 11, none⟩ = some (.int .u8 xd.head) ∧ w'.cell? ⟨g, 12, none⟩ = some (.int .i64 xd.label) ∧ w'.cell? ⟨g, 13, none⟩ = some (.int .u8 xd.frm) ∧ w'.cell? ⟨g, 14, none⟩ = some (.int .u8 xd.tto) ∧ w'.cell? ⟨g, 15, none⟩ = some (.slice ba bn bc)) ∧ Below wx.heap.size wx w' := by
            intro W w' h1 h2
            have h3 := h1.trans (h2.mono h1.size)
            obtain ⟨a0, a1, a2, a3, a4, a5, a6, a7⟩ := HA0.out w' (HBy.out.trans (h3.mono HBy.out.size))
            obtain ⟨b0, b1, b2, b3, b4, b5, b6, b7⟩ := HA1.out w' (HBy.out.trans (h3.mono HBy.out.size))
            exact ⟨⟨HKC.out w' h3, a0, a1, a2, a3, a4, a5, a6, a7, b0, b1, b2, b3, b4, b5, b6, b7⟩, h3⟩
          obtain ⟨⟨s0, s1, s2, s3, s4, s5, s6, s7, s8, s9, s10, s11, s12, s13, s14, s15, s16⟩, -⟩ := hstep wx wx (Below.refl _ _) (Below.refl _ _)
          have hmix : Tryd.prog.follows .mixedOrders = true := by kernel_rfl
          have HFC : Aside (∀ W : World, Below wx.heap.size wx W → (W.cell? ⟨w.heap.size, 7, none⟩ = some (.slice (some ⟨g, 0, none⟩) 2 cap) ∧ W.cell? ⟨g, 0, none⟩ = some (.int .i8 xa.op) ∧ W.cell? ⟨g, 1, none⟩ = some (.int .i64 xa.proj) ∧ W.cell? ⟨g, 2, none⟩ = some (.bool xa.inj) ∧ W.cell? ⟨g, 3, none⟩ = some (.int .u8 xa.head) ∧ W.cell? ⟨g, 4, none⟩ = some (.int .i64 xa.label) ∧ W.cell? ⟨g, 5, none⟩ = some (.int .u8 xa.frm) ∧ W.cell? ⟨g, 6, none⟩ = some (.int .u8 xa.tto) ∧ W.cell? ⟨g, 7, none⟩ = some (.slice aa an ac) ∧ W.cell? ⟨g, 8, none⟩ = some (.int .i8 xd.op) ∧ W.cell? ⟨g, 9, none⟩ = some (.int .i64 xd.proj) ∧ W.cell? ⟨g, 10, none⟩ = some (.bool xd.inj) ∧ W.cell? ⟨g, 11, none⟩ = some (.int .u8 xd.head) ∧ W.cell? ⟨g, 12, none⟩ = some (.int .i64 xd.label) ∧ W.cell? ⟨g, 13, none⟩ = some (.int .u8 xd.frm) ∧ W.cell? ⟨g, 14, none⟩ = some (.int .u8 xd.tto) ∧ W.cell? ⟨g, 15, none⟩ = some (.slice ba bn bc))) := fun W h => (hstep W W h (Below.refl _ _)).1
          have x0 : ∀ x : Cls (fun W => Below wx.heap.size wx W), x.w.cell? ⟨w.heap.size, 7, none⟩ = some (.slice (some ⟨g, 0, none⟩) 2 cap) := fun x => (HFC.out x.w x.h).1
          have x1 : ∀ x : Cls (fun W => Below wx.heap.size wx W), x.w.cell? ⟨g, 0, none⟩ = some (.int .i8 xa.op) := fun x => (HFC.out x.w x.h).2.1
          have x2 : ∀ x : Cls (fun W => Below wx.heap.size wx W), x.w.cell? ⟨g, 1, none⟩ = some (.int .i64 xa.proj) := fun x => (HFC.out x.w x.h).2.2.1
          have x3 : ∀ x : Cls (fun W => Below wx.heap.size wx W), x.w.cell? ⟨g, 2, none⟩ = some (.bool xa.inj) := fun x => (HFC.out x.w x.h).2.2.2.1
          have x4 : ∀ x : Cls (fun W => Below wx.heap.size wx W), x.w.cell? ⟨g, 3, none⟩ = some (.int .u8 xa.head) := fun x => (HFC.out x.w x.h).2.2.2.2.1
          have x5 : ∀ x : Cls (fun W => Below wx.heap.size wx W), x.w.cell? ⟨g, 4, none⟩ = some (.int .i64 xa.label) := fun x => (HFC.out x.w x.h).2.2.2.2.2.1
          have x6 : ∀ x : Cls (fun W => Below wx.heap.size wx W), x.w.cell? ⟨g, 5, none⟩ = some (.int .u8 xa.frm) := fun x => (HFC.out x.w x.h).2.2.2.2.2.2.1
          have x7 : ∀ x : Cls (fun W => Below wx.heap.size wx W), x.w.cell? ⟨g, 6, none⟩ = some (.int .u8 xa.tto) := fun x => (HFC.out x.w x.h).2.2.2.2.2.2.2.1
          have x8 : ∀ x : Cls (fun W => Below wx.heap.size wx W), x.w.cell? ⟨g, 7, none⟩ = some (.slice aa an ac) := fun x => (HFC.out x.w x.h).2.2.2.2.2.2.2.2.1
          have x9 : ∀ x : Cls (fun W => Below wx.heap.size wx W), x.w.cell? ⟨g, 8, none⟩ = some (.int .i8 xd.op) := fun x => (HFC.out x.w x.h).2.2.2.2.2.2.2.2.2.1
          have x10 : ∀ x : Cls (fun W => Below wx.heap.size wx W), x.w.cell? ⟨g, 9, none⟩ = some (.int .i64 xd.proj) := fun x => (HFC.out x.w x.h).2.2.2.2.2.2.2.2.2.2.1
          have x11 : ∀ x : Cls (fun W => Below wx.heap.size wx W), x.w.cell? ⟨g, 10, none⟩ = some (.bool xd.inj) := fun x => (HFC.out x.w x.h).2.2.2.2.2.2.2.2.2.2.2.1
          have x12 : ∀ x : Cls (fun W => Below wx.heap.size wx W), x.w.cell? ⟨g, 11, none⟩ = some (.int .u8 xd.head) := fun x => (HFC.out x.w x.h).2.2.2.2.2.2.2.2.2.2.2.2.1
          have x13 : ∀ x : Cls (fun W => Below wx.heap.size wx W), x.w.cell? ⟨g, 12, none⟩ = some (.int .i64 xd.label) := fun x => (HFC.out x.w x.h).2.2.2.2.2.2.2.2.2.2.2.2.2.1
          have x14 : ∀ x : Cls (fun W => Below wx.heap.size wx W), x.w.cell? ⟨g, 13, none⟩ = some (.int .u8 xd.frm) := fun x => (HFC.out x.w x.h).2.2.2.2.2.2.2.2.2.2.2.2.2.2.1
          have x15 : ∀ x : Cls (fun W => Below wx.heap.size wx W), x.w.cell? ⟨g, 14, none⟩ = some (.int .u8 xd.tto) := fun x => (HFC.out x.w x.h).2.2.2.2.2.2.2.2.2.2.2.2.2.2.2.1
          have x16 : ∀ x : Cls (fun W => Below wx.heap.size wx W), x.w.cell? ⟨g, 15, none⟩ = some (.slice ba bn bc) := fun x => (HFC.out x.w x.h).2.2.2.2.2.2.2.2.2.2.2.2.2.2.2.2
          have pF0c : ∀ W, Below wx.heap.size wx W → Calls Tryd.prog 41 #[.string sF, .int .i64 0] W fun e w' => e = .returned (.string sa0) ∧ Below wx.heap.size wx w' := fun W hW => (pF0 W).mono (by rintro e w' ⟨rfl, rfl⟩; exact ⟨rfl, hW⟩)
          have pF1c : ∀ W, Below wx.heap.size wx W → Calls Tryd.prog 41 #[.string sF, .int .i64 1] W fun e w' => e = .returned (.string sa1) ∧ Below wx.heap.size wx w' := fun W hW => (pF1 W).mono (by rintro e w' ⟨rfl, rfl⟩; exact ⟨rfl, hW⟩)
          have pG0c : ∀ W, Below wx.heap.size wx W → Calls Tryd.prog 41 #[.string sG, .int .i64 0] W fun e w' => e = .returned (.string sb0) ∧ Below wx.heap.size wx w' := fun W hW => (pG0 W).mono (by rintro e w' ⟨rfl, rfl⟩; exact ⟨rfl, hW⟩)
          have pG1c : ∀ W, Below wx.heap.size wx W → Calls Tryd.prog 41 #[.string sG, .int .i64 1] W fun e w' => e = .returned (.string sb1) ∧ Below wx.heap.size wx w' := fun W hW => (pG1 W).mono (by rintro e w' ⟨rfl, rfl⟩; exact ⟨rfl, hW⟩)
          have ca' : ∀ W, Below wx.heap.size wx W → Calls Tryd.prog 17 #[tree xa (.slice aa an ac), .string sb0, .string sa0] W fun e w' => e = .returned (.bool I1) ∧ Below wx.heap.size wx w' := fun W hW => by
            refine (cA W (HBy.out.trans (hW.mono HBy.out.size))).mono ?_
            rintro e w' ⟨rfl, h⟩
            exact ⟨rfl, hW.trans (h.mono hW.size)⟩
          have cd' : ∀ W, Below wx.heap.size wx W → Calls Tryd.prog 17 #[tree xd (.slice ba bn bc), .string sa1, .string sb1] W fun e w' => e = .returned (.bool I2) ∧ Below wx.heap.size wx w' := fun W hW => by
            refine (cD W (HBy.out.trans (hW.mono HBy.out.size))).mono ?_
            rintro e w' ⟨rfl, h⟩
            exact ⟨rfl, hW.trans (h.mono hW.size)⟩
          clear cA cD hstep HKC HA0 HA1 HFC pF0 pF1 pG0 pG1 s0 s1 s2 s3 s4 s5 s6 s7 s8 s9 s10 s11 s12 s13 s14 s15 s16
          cases I1
          all_goals
            have hne9 : Nonempty (Cls (fun W => Below wx.heap.size wx W)) := ⟨⟨wx, Below.refl _ _⟩⟩
            refine wp_region_calm (fun W => Below wx.heap.size wx W) hmix (by kernel_rfl) (Below.refl _ _).drew ?_
            repeat (go_big_quiet_step (first | (go_at_call 17; with_reducible exact calls_calm (ca' _ (Cls.h _))) | (go_at_call 17; with_reducible exact calls_calm (cd' _ (Cls.h _))) | (go_at_call 41; with_reducible exact calls_calm (pF0c _ (Cls.h _))) | (go_at_call 41; with_reducible exact calls_calm (pF1c _ (Cls.h _))) | (go_at_call 41; with_reducible exact calls_calm (pG0c _ (Cls.h _))) | (go_at_call 41; with_reducible exact calls_calm (pG1c _ (Cls.h _)))))
            refine wpQuiet_nil ?_
            rintro _ ⟨x, rfl⟩
            have hB4 := x.h
            generalize x.w = w4 at *
            go_wp2_with fail
            go_ret
            exact ⟨ret_b HE.out.symm, HBy.out.trans (hB4.mono HBy.out.size)⟩
        · have hne : ((((sT Gt)[0]'hG1).toNat : Int) != 62) = true := by rw [hG3]; simpa using hGh
          have HE : Aside (G = false) := by
            rw [Aside, HG.out, HSF'.out, HSG.out, show decide (hdI Gt = hB ((.tw .fn))) = false from decide_eq_false (by simpa [hB] using hGh)]; first | done | rfl
          have HBx : Aside (Below w.heap.size w wc) := HBw.out.trans (hBd.mono HBw.out.size)
          clear hG3 hGh t7 t0 t2
          generalize sT Gt = sG at *
          go_upto_region 15 with fail
          go_quiet (fail)
          go_wp2_with fail
          go_ret
          exact ⟨ret_b HE.out.symm, by first | exact HBx.out | exact below_dN HBx.out _⟩
    · have hne : ((((sT F)[0]'hF1).toNat : Int) != 62) = true := by rw [hF3]; simpa using hFh
      have HE : Aside (G = false) := by
        rw [Aside, HG.out, HSF.out, show decide (hdI F = hB ((.tw .fn))) = false from decide_eq_false (by simpa [hB] using hFh)]; first | done | rfl
      have HBw : Aside (Below w.heap.size w wa) := hB0.trans (hBc.mono hB0.size)
      clear hF3 hFh t7 t0 t2
      generalize sT F = sF at *
      go_upto_region 7 with fail
      go_quiet (fail)
      go_wp2_with fail
      go_ret
      exact ⟨ret_b HE.out.symm, by first | exact HBw.out | exact below_dN HBw.out _⟩
end Go.Proofs.YtaaokecdmbmgbaaDoor
