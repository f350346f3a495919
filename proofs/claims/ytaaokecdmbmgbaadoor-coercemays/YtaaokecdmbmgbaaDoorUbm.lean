/- The document's Goes: a list. -/
import Derived.Test.YtaaokecdmbmgbaaDoorUbj
namespace Go.Proofs.YtaaokecdmbmgbaaDoor
open Go.RowKit Cc
set_option maxRecDepth 100000
set_option linter.unusedSimpArgs false
set_option linter.unusedVariables false
set_option maxHeartbeats 6400000 in
theorem dGoes_ls (p : Int) (j : Bool) (a : C) (hKa : DgC a) : DgC (.ls p j a) := by
  intro v lo hi w f t hd hh hf ht
  obtain ⟨g, cap, ka, rfl, hg1, hg2, hR8, hda⟩ := hd
  have hA0 : At8 w g 0 (nod a) ka := by have := hR8.at (k := 0) (c := a) (kv := ka) rfl; simpa using this
  obtain ⟨aa, an, ac, rfl⟩ : ∃ da dn dc, ka = .slice da dn dc := by
    obtain ⟨da, dc, ks', e, -⟩ := hda.row
    exact ⟨da, _, dc, e⟩
  have hgw : g < w.heap.size := by omega
  have HA0 : Aside (∀ W, Below w.heap.size w W → At8 W g 0 (nod a) (.slice aa an ac)) := fun W hW => by
    have e : ∀ o, W.cell? ⟨g, o, none⟩ = w.cell? ⟨g, o, none⟩ := fun o => hW.cell (p := ⟨g, o, none⟩) hgw
    have h0 := hA0
    unfold At8 at h0 ⊢
    simp only [e]
    exact h0
  have cA : ∀ W, Below w.heap.size w W → Calls Tryd.prog 17 #[tree (nod a) (.slice aa an ac), .string (sT (kd (p != 0) 0 f)), .string (sT (kd j 0 t))] W fun e w' => e = .returned (.bool (goT a (kd (p != 0) 0 f) (kd j 0 t))) ∧ Below W.heap.size W w' := fun W hW =>
    hKa _ lo hi W (kd (p != 0) 0 f) (kd j 0 t) (hda.below hh hW) (Nat.le_trans hh hW.size) (kd_len hf) (kd_len ht)
  clear hR8 hda hA0 hKa
  rw [show nod (.ls p j a) = ⟨5, p, j, 108, 0, 0, 0⟩ from rfl]
  have q1 : ((sT f).toList == [63]) = T3.Tp.isq f := T3.Tp.isq_S f
  have q2 : ((sT t).toList == [63]) = T3.Tp.isq t := T3.Tp.isq_S t
  have cg := dGround_any (.ls)
  obtain ⟨F, hF⟩ : ∃ F, F = endT (p != 0) (.ls) f := ⟨_, rfl⟩
  obtain ⟨Gt, hGt⟩ : ∃ G, G = endT j (.ls) t := ⟨_, rfl⟩
  have hFl : (T3.Tp.enc F).length ≤ 64 := by rw [hF]; exact endT_len hf
  have hGl : (T3.Tp.enc Gt).length ≤ 64 := by rw [hGt]; exact endT_len ht
  have HS1 : Aside (p = 0 → F = f ∧ sideB (p != 0) (.ls) f = decide (hdI F = hB (.ls))) := by
    rintro rfl
    have : F = f := hF
    exact ⟨this, by rw [this]; rfl⟩
  have HS2 : Aside (p ≠ 0 → F = gT (.ls) ∧ (T3.Tp.isq f = true → sideB (p != 0) (.ls) f = decide (hdI F = hB (.ls))) ∧ (T3.Tp.isq f = false → sideB (p != 0) (.ls) f = false)) := by
    intro hp
    have hp' : (p != 0) = true := by simpa using hp
    have e1 : F = gT (.ls) := by rw [hF, hp']; rfl
    refine ⟨e1, fun h => ?_, fun h => ?_⟩
    · rw [e1, gT_hd, hp']; simpa [sideB, isq_iff] using h
    · rw [hp']; simpa [sideB, isq_iff] using h
  have HG : Aside (goT (.ls p j a) f t = (sideB (p != 0) .ls f && (sideB j .ls t && goT a (kd (p != 0) 0 f) (kd j 0 t)))) := rfl
  generalize goT (.ls p j a) f t = G at *
  obtain ⟨hF1, hF2⟩ := sT_head F
  go_enter Tryd.func17, Tryd.ntmps17
  go_upto_region 3 with fail
  obtain ⟨W0, hW0⟩ : ∃ W0, W0 = w.alloc (.cells #[.int .i8 5, .int .i64 p, .bool j, .int .u8 108, .int .i64 0, .int .u8 0, .int .u8 0, .slice (some ⟨g, 0, none⟩) 1 cap] 36) := ⟨_, rfl⟩
  have hB0 : Below w.heap.size w W0 := by rw [hW0]; exact (Below.refl _ _).alloc (Nat.le_refl _) _
  have hT : W0.cell? ⟨w.heap.size, 0, none⟩ = some (.int .i8 5) ∧ W0.cell? ⟨w.heap.size, 1, none⟩ = some (.int .i64 p) ∧ W0.cell? ⟨w.heap.size, 2, none⟩ = some (.bool j) ∧ W0.cell? ⟨w.heap.size, 3, none⟩ = some (.int .u8 108) ∧ W0.cell? ⟨w.heap.size, 7, none⟩ = some (.slice (some ⟨g, 0, none⟩) 1 cap) ∧ w.heap.size < W0.heap.size := by rw [hW0]; simp
  rw [← hW0]
  clear hW0
  obtain ⟨t0, t1, t2, t3, t7, t8⟩ := hT
  have HT : Aside (∀ W, Below W0.heap.size W0 W → W.cell? ⟨w.heap.size, 0, none⟩ = some (.int .i8 5) ∧ W.cell? ⟨w.heap.size, 2, none⟩ = some (.bool j) ∧ W.cell? ⟨w.heap.size, 3, none⟩ = some (.int .u8 108) ∧ W.cell? ⟨w.heap.size, 7, none⟩ = some (.slice (some ⟨g, 0, none⟩) 1 cap)) := fun W h =>
    ⟨(h.cell (p := ⟨w.heap.size, 0, none⟩) t8).trans t0, (h.cell (p := ⟨w.heap.size, 2, none⟩) t8).trans t2, (h.cell (p := ⟨w.heap.size, 3, none⟩) t8).trans t3, (h.cell (p := ⟨w.heap.size, 7, none⟩) t8).trans t7⟩
  clear t0 t2 t7
  go_upto_if 21 with fail
  go_cut [1] (fun s1 wc => s1 = .string (sT F) ∧ Below W0.heap.size W0 wc ∧ Aside (sideB (p != 0) (.ls) f = decide (hdI F = hB (.ls))))
  case first =>
    by_cases hp : p = 0
    · have hp' : (p != 0) = false := by simp [hp]
      have e1 := (HS1.out hp).1
      have e2 := (HS1.out hp).2
      have HE : Aside (sideB (p != 0) (.ls) f = decide (hdI F = hB (.ls)) ∧ F = f) := ⟨e2, e1⟩
      clear e1 e2 hp HS1 HS2
      go_wp2_with fail
      go_meet
      case rel => exact ⟨by rw [HE.out.2], Below.refl _ _, HE.out.1⟩
    · have hp' : (p != 0) = true := by simpa using hp
      obtain ⟨e1, e2, e3⟩ := HS2.out hp
      cases hq : T3.Tp.isq f
      · rw [hq] at q1
        have HE : Aside (G = false) := by rw [Aside, HG.out, e3 hq]; first | done | rfl
        clear e1 e2 e3 hq hp HS1 HS2
        go_wp2_with fail
        go_ret
        exact ⟨ret_b HE.out.symm, hB0⟩
      · rw [hq] at q1
        have HE : Aside (sideB (p != 0) (.ls) f = decide (hdI F = hB (.ls)) ∧ F = gT (.ls)) := ⟨e2 hq, e1⟩
        clear e1 e2 e3 hq hp HS1 HS2
        go_wp2_with (go_at_call 40; refine (cg _).mono ?_; rintro e w1 ⟨rfl, hB1⟩)
        go_meet
        case rel => exact ⟨by rw [HE.out.2], hB1, HE.out.1⟩
  case rest =>
    obtain ⟨rfl, hBc, HSF⟩ := hcut
    generalize wc = wa at *
    obtain ⟨t0, t2, t3, t7⟩ := HT.out wa hBc
    have hF1' : (0 : Int) < ((sT F).size : Int) := by omega
    have hF3 := hF2 hF1
    clear hF2 t1 q1 HS1 HS2
    by_cases hFh : hdI F = 108
    · have hne : ((((sT F)[0]'hF1).toNat : Int) != 108) = false := by rw [hF3]; simpa using hFh
      have HSF' : Aside (sideB (p != 0) (.ls) f = true) := by rw [Aside, HSF.out]; exact decide_eq_true hFh
      have HBw : Aside (Below w.heap.size w wa) := hB0.trans (hBc.mono hB0.size)
      have HFk : Aside (hdI F = hB (.ls)) := hFh
      have hFh9 : hdI F = hB (.ls) := hFh
      have pF0 : ∀ W, Calls Tryd.prog 41 #[.string (sT F), .int .i64 0] W fun e w' => e = .returned (.string (sT (kd (p != 0) 0 f))) ∧ w' = W := fun W => by
        have := partD_any F 0 (by rw [hd_kids (h := .ls) (by assumption)]; decide) hFl W
        rwa [show kd false 0 F = kd (p != 0) 0 f by rw [hF]; exact endT_kd (by decide)] at this
      clear hFh9
      clear hF3 hFh t7 t2 HSF
      obtain ⟨hG1, hG2⟩ := sT_head Gt
      generalize sT F = sF at *
      have HJ : Aside (∀ W, Below wa.heap.size wa W → W.cell? ⟨w.heap.size, 0, none⟩ = some (.int .i8 5) ∧ W.cell? ⟨w.heap.size, 2, none⟩ = some (.bool j) ∧ W.cell? ⟨w.heap.size, 3, none⟩ = some (.int .u8 108) ∧ W.cell? ⟨w.heap.size, 7, none⟩ = some (.slice (some ⟨g, 0, none⟩) 1 cap)) := fun W h => HT.out W (hBc.trans (h.mono hBc.size))
      clear HT
      have t2 := (HJ.out wa (Below.refl _ _)).2.1
      go_upto_region 7 with fail
      go_quiet (fail)
      go_upto_if 40 with fail
      go_cut [2] (fun s2 wd => s2 = .string (sT Gt) ∧ Below wa.heap.size wa wd ∧ Aside (sideB j (.ls) t = decide (hdI Gt = hB (.ls))))
      case first =>
        clear t0
        cases j
        · have HE : Aside (sideB false (.ls) t = decide (hdI Gt = hB (.ls)) ∧ Gt = t) := by
            have : Gt = t := hGt
            exact ⟨by rw [this]; rfl, this⟩
          clear hGt
          go_wp2_with fail
          go_meet
          case rel => exact ⟨by rw [HE.out.2], by first | exact Below.refl _ _ | exact below_dN (Below.refl _ _) _, HE.out.1⟩
        · have e1 : Gt = gT (.ls) := hGt
          cases hq : T3.Tp.isq t
          · rw [hq] at q2
            have HE : Aside (G = false) := by rw [Aside, HG.out, HSF'.out, show sideB true (.ls) t = false by simpa [sideB, isq_iff] using hq]; first | done | rfl
            clear e1 hq hGt
            go_wp2_with fail
            go_ret
            exact ⟨ret_b HE.out.symm, by first | exact HBw.out | exact below_dN HBw.out _⟩
          · rw [hq] at q2
            have HE : Aside (sideB true (.ls) t = decide (hdI Gt = hB (.ls)) ∧ Gt = gT (.ls)) := ⟨by rw [e1, gT_hd]; simpa [sideB, isq_iff] using hq, e1⟩
            clear e1 hq hGt
            go_wp2_with (go_at_call 40; refine (cg _).mono ?_; rintro e w1 ⟨rfl, hB1⟩)
            go_meet
            case rel => exact ⟨by rw [HE.out.2], by first | exact hB1 | exact (below_dN (Below.refl _ _) _).trans (hB1.mono (Nat.le_refl _)), HE.out.1⟩
      case rest =>
        obtain ⟨rfl, hBd, HSG⟩ := hcut
        obtain ⟨t0, t2, t3, t7⟩ := HJ.out wc hBd
        have hG1' : (0 : Int) < ((sT Gt).size : Int) := by omega
        have hG3 := hG2 hG1
        clear hG2 q2
        by_cases hGh : hdI Gt = 108
        · have hne : ((((sT Gt)[0]'hG1).toNat : Int) != 108) = false := by rw [hG3]; simpa using hGh
          have HSG' : Aside (sideB j (.ls) t = true) := by rw [Aside, HSG.out]; exact decide_eq_true hGh
          have HGk : Aside (hdI Gt = hB (.ls)) := hGh
          have HBx : Aside (Below w.heap.size w wc) := HBw.out.trans (hBd.mono HBw.out.size)
          have hGh9 : hdI Gt = hB (.ls) := hGh
          have pG0 : ∀ W, Calls Tryd.prog 41 #[.string (sT Gt), .int .i64 0] W fun e w' => e = .returned (.string (sT (kd (j) 0 t))) ∧ w' = W := fun W => by
            have := partD_any Gt 0 (by rw [hd_kids (h := .ls) (by assumption)]; decide) hGl W
            rwa [show kd false 0 Gt = kd (j) 0 t by rw [hGt]; exact endT_kd (by decide)] at this
          clear hGh9
          clear hG3 hGh HSG
          generalize sT Gt = sG at *
          go_upto_region 15 with fail
          go_quiet (fail)
          clear t0 t2 t3 t7
          go_upto_region 17 with fail
          obtain ⟨wx, hwx⟩ : ∃ wx, wx = wc.drewN nq := ⟨_, rfl⟩
          rw [← hwx]
          have HBy : Aside (Below w.heap.size w wx) := by rw [Aside, hwx]; exact below_dN HBx.out _
          have hBe : Below wa.heap.size wa wx := by rw [hwx]; exact below_dN hBd _
          clear hwx
          obtain ⟨t0, t2, t3, t7⟩ := HJ.out wx hBe
          have HE : Aside (G = goT a (kd (p != 0) 0 f) (kd j 0 t)) := by rw [Aside, HG.out, HSF'.out, HSG'.out]; rfl
          have hmix : Tryd.prog.follows .mixedOrders = true := by kernel_rfl
          generalize goT a (kd (p != 0) 0 f) (kd j 0 t) = I1 at *
          generalize sT (kd (p != 0) 0 f) = sa0 at *
          generalize sT (kd j 0 t) = sb0 at *
          generalize nod a = xa at *
          have HKC : Aside (∀ W, Below wx.heap.size wx W → W.cell? ⟨w.heap.size, 7, none⟩ = some (.slice (some ⟨g, 0, none⟩) 1 cap)) := fun W h => (HJ.out W (hBe.trans (h.mono hBe.size))).2.2.2
          clear t2 t3 HG HSF' HSG' HJ hBe hF hGt
          go_wp2_with fail
          go_loopg [7] 1 (fun gq v7 wr => ∃ k : Nat, k + gq = 1 ∧ v7 = .int .i64 (k : Int) ∧ Below wx.heap.size wx wr ∧ Aside (G = (if k = 0 then I1 else true)))
          case atStart => exact ⟨0, rfl, rfl, Below.refl _ _, by rw [Aside, HE.out]; rfl⟩
          case round =>
            clear HE t7
            obtain ⟨k, hkg, rfl, hB, HI⟩ := hrel
            have t7 := HKC.out wr hB
            have hBr : Below w.heap.size w wr := HBy.out.trans (hB.mono HBy.out.size)
            have hk3 : k = 0 ∨ k = 1 := by omega
            rcases hk3 with rfl | rfl
            · obtain ⟨a0, a1, a2, a3, a4, a5, a6, a7⟩ := HA0.out wr hBr
              cases I1
              · go_wp2_with fail
                refine wp_region_still_tail 11 hmix (by kernel_rfl) ?_
                simp only [List.take_succ_cons, List.take_zero, List.drop_succ_cons, List.drop_zero]
                repeat still_step
                still_call (pF0 _)
                repeat still_step
                still_call (pG0 _)
                repeat still_step
                refine wpStill_nil ?_
                go_wp2_with fail
                refine (cA _ hBr.drew).mono ?_
                rintro e w4 ⟨rfl, hB4⟩
                go_wp2_with fail
                go_ret
                exact ⟨ret_b (by rw [HI.out]; rfl), hBr.drew.trans (hB4.mono hBr.size)⟩
              · go_wp2_with fail
                refine wp_region_still_tail 11 hmix (by kernel_rfl) ?_
                simp only [List.take_succ_cons, List.take_zero, List.drop_succ_cons, List.drop_zero]
                repeat still_step
                still_call (pF0 _)
                repeat still_step
                still_call (pG0 _)
                repeat still_step
                refine wpStill_nil ?_
                go_wp2_with fail
                refine (cA _ hBr.drew).mono ?_
                rintro e w4 ⟨rfl, hB4⟩
                go_wp2_with fail
                go_roundg 0
                case measure => omega
                case rel => exact ⟨1, rfl, by go_num, hB.drew.trans (hB4.mono hB.size), by rw [Aside, HI.out]; rfl⟩
            · go_wp2_with fail
              go_ret
              exact ⟨ret_b (by rw [HI.out]; rfl), hBr⟩
        · have hne : ((((sT Gt)[0]'hG1).toNat : Int) != 108) = true := by rw [hG3]; simpa using hGh
          have HE : Aside (G = false) := by
            rw [Aside, HG.out, HSF'.out, HSG.out, show decide (hdI Gt = hB (.ls)) = false from decide_eq_false (by simpa [hB] using hGh)]; first | done | rfl
          have HBx : Aside (Below w.heap.size w wc) := HBw.out.trans (hBd.mono HBw.out.size)
          clear hG3 hGh t7 t0 t2
          generalize sT Gt = sG at *
          go_upto_region 15 with fail
          go_quiet (fail)
          go_wp2_with fail
          go_ret
          exact ⟨ret_b HE.out.symm, by first | exact HBx.out | exact below_dN HBx.out _⟩
    · have hne : ((((sT F)[0]'hF1).toNat : Int) != 108) = true := by rw [hF3]; simpa using hFh
      have HE : Aside (G = false) := by
        rw [Aside, HG.out, HSF.out, show decide (hdI F = hB (.ls)) = false from decide_eq_false (by simpa [hB] using hFh)]; first | done | rfl
      have HBw : Aside (Below w.heap.size w wa) := hB0.trans (hBc.mono hB0.size)
      clear hF3 hFh t7 t0 t2
      generalize sT F = sF at *
      go_upto_region 7 with fail
      go_quiet (fail)
      go_wp2_with fail
      go_ret
      exact ⟨ret_b HE.out.symm, by first | exact HBw.out | exact below_dN HBw.out _⟩
end Go.Proofs.YtaaokecdmbmgbaaDoor
