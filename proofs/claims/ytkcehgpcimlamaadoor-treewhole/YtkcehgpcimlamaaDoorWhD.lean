/- TreeWhole returns true, whatever list is handed in. -/
import Derived.Test.YtkcehgpcimlamaaDoorWhC
import Derived.Deep.CutRange
import Derived.Deep.DeepCutAuto
import Derived.Deep.RegionWith
namespace Go.Proofs.YtkcehgpcimlamaaDoor
open Go.RowKit
set_option maxRecDepth 100000
set_option linter.unusedSimpArgs false

theorem IsNodes.cut {w : World} {b o n c : Nat} {l : List Tr.Nd} (h : IsNodes w (.slice (some ⟨b, o, none⟩) n c) l) {i j : Nat} (hij : i < j) (hj : j ≤ l.length) :
    IsNodes w (.slice (some ⟨b, o + i * 8, none⟩) (j - i) (c - i)) ((l.drop i).take (j - i)) ∧ ((l.drop i).take (j - i)).length = j - i := by
  have hlen : ((l.drop i).take (j - i)).length = j - i := by simp; omega
  refine ⟨.inr ⟨b, o + i * 8, c - i, by rw [hlen], ?_, ?_, fun k x hk q u hu => ?_⟩, hlen⟩
  · rcases h with ⟨rfl, _⟩ | ⟨b', o', c', e, h1, _⟩
    · simp at hj; omega
    · cases e; rw [hlen]; omega
  · rcases h with ⟨rfl, _⟩ | ⟨b', o', c', e, h1, h2, _⟩
    · simp at hj; omega
    · cases e; exact h2
  · have hkj : k < j - i := by have := (List.getElem?_eq_some_iff.1 hk).1; omega
    rw [List.getElem?_take, if_pos hkj, List.getElem?_drop] at hk
    obtain ⟨b', o', e, _, _, hc⟩ := h.at hk
    cases e
    have := hc q u hu
    rw [show o + (i + k) * 8 + q = o + i * 8 + k * 8 + q by omega] at this
    exact this
theorem flats_ge : ∀ ks : List Tr.T, ks.length ≤ (Tr.flats ks).length
  | [] => by simp
  | t :: r => by have := flats_ge r; have := Tr.flat_pos t; rw [Tr.flats]; simp; omega
theorem highs_take_le : ∀ (ks : List Tr.T) (k : Nat), Tr.highs (ks.take k) ≤ Tr.highs ks
  | [], k => by simp
  | t :: r, 0 => by simp [Tr.highs]
  | t :: r, k + 1 => by have := highs_take_le r k; simp only [List.take_succ_cons, Tr.highs]; omega
theorem sep_grew {N : Nat} {a r kv : Value} (h : Grew N a r) (hs : Sep a kv) (hk : ∀ x, kv.ownBlock = some x → x < N) : Sep r kv := by
  rcases h with h | ⟨k, h, hN⟩
  · unfold Sep at *; rw [h]; exact hs
  · refine .inr (fun e => ?_)
    have := hk k (by rw [← e, h]); omega
theorem binds_len (x : Tr.Nd) (k : Nat) : (Tr.binds x k).length ≤ 2 := by
  unfold Tr.binds
  split
  · simp
  · split
    · simp
    · split <;> simp
theorem Low.mono {v : Value} {a b : Nat} (h : Low v a) (hab : a ≤ b) : Low v b := fun g o n c e => Nat.lt_of_lt_of_le (h g o n c e) hab
theorem Fits.sub {l m : List Tr.Nd} (h : Fits l) (hm : ∀ x ∈ m, x ∈ l) (hl : m.length ≤ l.length) : Fits m :=
  ⟨Nat.le_trans hl h.len, fun x hx => h.kids x (hm x hx), fun x hx => h.str x (hm x hx)⟩
theorem fit_ar {x : Tr.Nd} (h : Tr.mayB x = true) (ha : Tr.arF x.kind = true) : Tr.arK x.kind = x.kids := by
  unfold Tr.mayB at h
  simp only [Bool.and_eq_true] at h
  have hfit := h.1.1.1.1
  unfold Tr.fitB at hfit
  by_cases h21 : (x.kind == 21) = true
  · rw [beq_iff_eq] at h21
    rw [h21] at ha
    exact absurd ha (by decide)
  · rw [if_neg h21] at hfit
    split at hfit
    · simp at hfit
    · simp only [Bool.and_eq_true, beq_iff_eq] at hfit
      exact hfit.2.symm

set_option maxHeartbeats 16000000 in
theorem treeWhole_any (l : List Tr.Nd) (hf : Fits l) (v : Value) (w : World) (hl : IsNodes w v l) :
    Calls Tryd.prog 6 #[v] w fun e w' => e = .returned (.bool true) ∧ Below w.heap.size w w' := by
  obtain ⟨a, c, rfl⟩ := hl.form
  go_enter Tryd.func6, Tryd.ntmps6
  go_upto_region 2 with (go_at_call 8; refine (works_any _).mono ?_; rintro e w1 ⟨rfl, hB1⟩)
  have hc1 := treeCheck_any l hf _ w1 (hl.below hB1)
  go_upto_region 3 with (go_at_call 12; refine hc1.mono ?_; rintro e w2 ⟨rfl, hB2⟩)
  have hA2 := bt hB1 hB2
  clear hc1 hB1 hB2
  by_cases h0 : (chkN l).1 = 0
  · rw [h0]
    by_cases h3 : 300 < l.length
    · have h3' : (300 : Int) < (l.length : Int) := by omega
      generalize (chkN l).2 = r2
      go_wp2_with fail
      go_ret
      exact ⟨rfl, hA2⟩
    · have h3' : decide ((300 : Int) < (l.length : Int)) = false := by simp; omega
      have hl3 : l.length ≤ 300 := by omega
      have HC : Aside ((chkN l).1 = 0) := h0
      generalize (chkN l).2 = r2
      clear h0 h3
      go_wp2_with fail
      clear h3'
      go_loopg [6] l.length (fun g t wr => ∃ p : Nat, p + g = l.length ∧ t = .int .i64 (p : Int) ∧ Below w.heap.size w wr)
      case atStart => exact ⟨0, by omega, rfl, hA2⟩
      case round =>
        obtain ⟨p, hpg, rfl, hB⟩ := hrel
        clear hA2
        by_cases hp : p < l.length
        · have hp' : (p : Int) < (l.length : Int) := by omega
          have hp0 : (0 : Int) ≤ (p : Int) := by omega
          obtain ⟨x, ks, e, PA⟩ := part_at HC.out hp
          have hlr := hl.below hB
          have hb1 := behind_any l hf.len hf.kids _ (p : Int) wr hlr
          rw [PA.fin] at hb1
          go_upto_region 9 with (go_at_call 18; refine hb1.mono ?_; rintro e' w3 ⟨rfl, hB3⟩)
          have hA3 := hB.trans (hB3.mono hB.size)
          have hl3' := hlr.below hB3
          have hk1 := kids_any l hf _ (p : Int) w3 hl3'
          rw [PA.kn] at hk1
          simp only [List.length_map, List.length_range] at hk1
          clear hb1 hlr hB hB3
          go_upto_region 10 with (go_at_call 19; refine hk1.mono ?_; rintro e' w4 ⟨kv, rfl, hkv, hB4⟩; obtain ⟨ka, kc, hkf⟩ := own_len hkv; subst hkf)
          have hA4 := hA3.trans (hB4.mono hA3.size)
          have hl4 := hl3'.below hB4
          have hkv' := own_mono hkv hA3.size
          clear hk1 hl3' hkv hB4 hA3
          obtain ⟨b1, o1, rfl, hlc, hbl, hcx⟩ := hl4.at PA.at'
          have hb0 : b1 < w.heap.size := by
            obtain ⟨b2, o2, e2, _, h2, _⟩ := hl.at PA.at'
            cases e2; exact h2
          have c0 : w4.cell? ⟨b1, o1 + p * 8, none⟩ = some (.int .i8 x.kind) := hcx 0 _ rfl
          have c1 : w4.cell? ⟨b1, o1 + p * 8 + 1, none⟩ = some (.int .i64 (ks.length : Int)) := by rw [← PA.kids]; exact hcx 1 _ rfl
          have hkk : ((ks.length : Int) != (ks.length : Int)) = false := by simp
          have hle : decide ((e : Int) ≤ (p : Int)) = false := by have := PA.lt; simp; omega
          have hge : decide ((l.length : Int) < (e : Int)) = false := by have := PA.le; simp; omega
          have hK : Tr.arF x.kind = true → (Tr.arK x.kind != (ks.length : Int)) = false := fun h => by have h1 := fit_ar PA.may h; rw [h1, PA.kids]; simp
          have hle2 : ¬ e ≤ p := by have := PA.lt; omega
          have hge2 : ¬ l.length < e := by have := PA.le; omega
          clear hcx
          go_upto_region 11 with (go_at_call 16; refine (arity_any _ _).mono ?_; rintro e' w' ⟨rfl, hw'⟩; replace hw' := hw'.symm; subst hw')
          generalize Tr.arF x.kind = f at *
          generalize Tr.arK x.kind = K at *
          have hks : ks.length ≤ 300 := by
            have h1 := PA.sum
            have h2 : ks.length ≤ (Tr.flats ks).length := flats_ge ks
            omega
          go_cut [81] (fun s81 wx => s81 = .bool false ∧ wx = w4)
          case first =>
            cases f
            · clear hK
              go_wp2_with fail
              go_meet
              case rel => exact ⟨by simp [hle2, hge2], rfl⟩
            · have hK2 := hK rfl
              clear hK
              go_wp2_with fail
              go_meet
              case rel => exact ⟨by simp [hle2, hge2], rfl⟩
          case rest =>
            obtain ⟨rfl, rfl⟩ := hcut
            clear hK hle hge hkk c1 hle2 hge2
            have hp5 : p ≤ 300 := by omega
            go_wp2_with fail
            go_loopg [11, 12, 13, 14] ks.length (fun g s11 s12 s13 s14 wi => ∃ (k : Nat) (acc : List (List UInt8)), k + g = ks.length ∧ s11 = .int .i64 (Tr.kidAt l p k : Int) ∧ s12 = .int .i64 (Tr.highs (ks.take k) : Int) ∧ s14 = .int .i64 (k : Int) ∧
              wi.ownsRow w.heap.size 9 1 s13 acc.length (tcells acc) ∧ acc.length ≤ (Tr.flats (ks.take k)).length ∧ Below w.heap.size w wi ∧ wi.ownsRow w.heap.size 3 1 (.slice ka ks.length kc) ks.length (icells ((List.range ks.length).map (Tr.kidAt l p))) ∧ Sep s13 (.slice ka ks.length kc) ∧ Aside (Tr.frs x 0 [] ks = Tr.frs x k acc (ks.drop k)))
            case atStart => exact ⟨0, [], by omega, by rw [PA.first]; go_num, rfl, rfl, own_nil _ _ _ _, by simp, hA4, hkv', .inl rfl, rfl⟩
            case round =>
              obtain ⟨k, acc, hkg, rfl, rfl, rfl, hacc, hal, hBi, hki, hsp, HFR⟩ := hrel
              clear hA4 hkv' hl4 c0
              obtain ⟨fa, fc, rfl⟩ := own_len hacc
              by_cases hk : k < ks.length
              · have hk' : (k : Int) < (ks.length : Int) := by omega
                have hk0 : (0 : Int) ≤ (k : Int) := by omega
                obtain ⟨st1, st2, st3, st4⟩ := PA.step k hk
                obtain ⟨ck1, ck2, ck3⟩ := PA.chks k hk
                have hple := PA.le
                have hli := hl.below hBi
                have hb1 := behind_any l hf.len hf.kids _ (Tr.kidAt l p k : Int) wr hli
                rw [st3] at hb1
                have HHI : Aside (Tr.highs (ks.take (k + 1)) = max (Tr.highs (ks.take k)) (Tr.high ks[k])) := Tr.highs_take ks k hk
                have HLN : Aside ((Tr.flats (ks.take (k + 1))).length = (Tr.flats (ks.take k)).length + (Tr.flat ks[k]).length) := by
                  show _ = _
                  rw [List.take_add_one, List.getElem?_eq_getElem hk, Tr.flats_append]; simp [Tr.flats]
                have HFS : Aside (Tr.frs x 0 [] ks = Tr.frs x (k + 1) (Tr.wo acc (Tr.free ks[k]) (Tr.binds x k)) (ks.drop (k + 1))) := by
                  show _ = _
                  rw [HFR.out, List.drop_eq_getElem_cons hk, Tr.frs]
                have hck : ∃ g cap, Value.slice ka ks.length kc = .slice (some ⟨g, 0, none⟩) ks.length cap ∧ ks.length ≤ cap ∧ ∀ W : World, W.ownsRow w.heap.size 3 1 (.slice ka ks.length kc) ks.length (icells ((List.range ks.length).map (Tr.kidAt l p))) → W.cell? ⟨g, k, none⟩ = some (.int .i64 (Tr.kidAt l p k : Int)) := by
                  obtain ⟨g, cap, hv, hcap, _, _⟩ := own_cells hki (by omega)
                  refine ⟨g, cap, hv, hcap, fun W hW => ?_⟩
                  obtain ⟨g', cap', hv', _, _, hcell⟩ := own_cells hW (by omega)
                  rw [hv] at hv'
                  cases hv'
                  rw [hcell k (by omega)]
                  simp [icells, hk]
                obtain ⟨g, cap, hv, hcap, hcell⟩ := hck
                have hfit : Fits (Tr.flat ks[k]) := hf.sub (fun y hy => by rw [← st4] at hy; exact List.mem_of_mem_drop (List.mem_of_mem_take hy)) ck3
                have hfl3 : (Tr.flat ks[k]).length ≤ 300 := by omega
                have hfp := Tr.flat_pos ks[k]
                have hdp := deep_tree ck2
                have hfl : (Tr.free ks[k]).length ≤ (Tr.flat ks[k]).length := Tr.free_len _
                have hfr : ∀ ns, freeN (Tr.flat ks[k]) ns → ns = Tr.free ks[k] := fun ns h => freeN_tree ck2 (by rw [ck1]) h
                have hmx : Tr.highs (ks.take k) ≤ 4096 ∧ Tr.high ks[k] ≤ 4096 := by
                  have h1 := PA.dp
                  have h2 := (wf_at PA.wfk k hk).2.1
                  have h3 := highs_take_le ks k
                  rw [Tr.high] at h1
                  omega
                have hbn := refBinds_any x (hf.str x (List.mem_of_getElem? PA.at')) PA.may k
                have hbl5 := binds_len x k
                have hsum : (Tr.flats (ks.take k)).length ≤ 300 := by
                  have h1 := PA.sum
                  have h2 : (Tr.flats (ks.take k)).length ≤ (Tr.flats ks).length := by
                    have : Tr.flats ks = Tr.flats (ks.take k) ++ Tr.flats (ks.drop k) := by rw [← Tr.flats_append, List.take_append_drop]
                    rw [this]; simp
                  omega
                have hxa := PA.at'
                clear HFR PA ck1 ck2 ck3
                generalize Tr.kidAt l p k = pk at *
                generalize hpnE : Tr.kidAt l p (k + 1) = pn at *
                have HPN : Aside (Tr.kidAt l p (k + 1) = pn) := hpnE
                clear hpnE
                generalize hpt : ks[k] = kt at *
                generalize Tr.highs (ks.take k) = h1 at *
                generalize hh2E : Tr.highs (ks.take (k + 1)) = h2 at *
                have HH2 : Aside (Tr.highs (ks.take (k + 1)) = h2) := hh2E
                clear hh2E
                have hneq : ((pk : Int) != (pk : Int)) = false := by simp
                have d0 := hcell wr hki
                have hv0 := hv
                cases hv
                have hkc : (k : Int) < (ks.length : Int) := hk'
                have hpe : e ≤ l.length := hple
                have g1 : decide ((pn : Int) ≤ (pk : Int)) = false := by simp; omega
                have g2 : decide ((e : Int) < (pn : Int)) = false := by simp; omega
                have g3 : (pk : Int) ≤ (pn : Int) := by omega
                have g4 : (pn : Int) ≤ (c : Int) := by omega
                have g5 : (0 : Int) ≤ (pk : Int) := by omega
                go_upto_region 22 with (go_at_call 18; refine hb1.mono ?_; rintro e' w5 ⟨rfl, hB5⟩)
                have hA5 := hBi.trans (hB5.mono hBi.size)
                have hki5 := own_below hki hB5
                have hac5 := own_below hacc hB5
                have d5 := hcell w5 hki5
                have hl5 := hl.below hA5
                clear hb1 hB5 hBi hki hacc hli d0 hneq
                obtain ⟨hcut5, hlen5⟩ := hl5.cut (i := pk) (j := pn) st1 (by omega)
                rw [st4] at hcut5 hlen5
                have hcp := copyNodes_any (Tr.flat kt) hfp (by omega) _ w5 hcut5
                rw [hlen5] at hcp
                go_upto_region 24 with fail
                go_upto_region 25 with (go_at_call 29; refine hcp.mono ?_; rintro e' w6 ⟨qa, qc, rfl, hq6, hlow6, hB6⟩)
                have hA6 := hA5.trans (hB6.mono hA5.size)
                have hki6 := own_below hki5 hB6
                have hac6 := own_below hac5 hB6
                have hde := deep_any (Tr.flat kt) hfit _ w6 hq6
                rw [hdp] at hde
                clear hcp hB6 hA5 hki5 hac5 hcut5 hl5 d5 g1 g2 g3 g4 g5
                go_upto_region 26 with (go_at_call 24; refine hde.mono ?_; rintro e' w7 ⟨rfl, hB7⟩)
                have hA7 := hA6.trans (hB7.mono hA6.size)
                have hki7 : w7.drew.ownsRow w.heap.size 3 1 (.slice (some ⟨g, 0, none⟩) ks.length kc) ks.length (icells ((List.range ks.length).map (Tr.kidAt l p))) := own_below hki6 (below_drew hB7)
                have hac7 : w7.drew.ownsRow w.heap.size 9 1 (.slice fa acc.length fc) acc.length (tcells acc) := own_below hac6 (below_drew hB7)
                have hq7 : IsNodes w7.drew (.slice qa (pn - pk) qc) (Tr.flat kt) := hq6.below (below_drew hB7)
                have hlow7 : Low (.slice qa (pn - pk) qc) w7.drew.heap.size := hlow6.mono hB7.size
                have hA7' : Below w.heap.size w w7.drew := below_drew hA7
                have hl7 := hl.below hA7'
                have hfe := free_any (Tr.flat kt) hfit _ w7.drew hq7 hlow7
                obtain ⟨b2, o2, hab, _, _, hcx7⟩ := hl7.at hxa
                cases hab
                obtain ⟨p0, p1, p2, p3, p4, p5, p6, p7⟩ := agg_cells (o := o1 + p * 8) hcx7
                simp only [World.cell?_drew] at p0 p1 p2 p3 p4 p5 p6 p7
                rw [val_node] at hbn
                clear hde hB7 hA6 hki6 hac6 hq6 hlow6 hlen5 hcx7
                have hcell8 : ∀ w8 : World, Below w7.drew.heap.size w7.drew w8 → ∀ o, w8.cell? ⟨b1, o, none⟩ = w7.drew.cell? ⟨b1, o, none⟩ := fun w8 h o => h.cell (p := ⟨b1, o, none⟩) (Nat.lt_of_lt_of_le hb0 hA7'.size)
                simp only [World.cell?_drew] at hcell8
                have hwo : ∀ (w8 w9 : World) (r : Value) (ba : Option Addr) (bc : Nat), w8.ownsRow w7.drew.heap.size 9 1 r (Tr.free kt).length (tcells (Tr.free kt)) → Below w7.drew.heap.size w7.drew w8 → IsTexts w9 (.slice ba (Tr.binds x k).length bc) (Tr.binds x k) → High (.slice ba (Tr.binds x k).length bc) w8.heap.size → Below w8.heap.size w8 w9 →
                    Calls Tryd.prog 30 #[.slice fa acc.length fc, r, .slice ba (Tr.binds x k).length bc] w9 fun e w' => ∃ z, e = .returned z ∧ w'.ownsRow w.heap.size 9 1 z (Tr.wo acc (Tr.free kt) (Tr.binds x k)).length (tcells (Tr.wo acc (Tr.free kt) (Tr.binds x k))) ∧ Below w.heap.size w w' ∧ w'.ownsRow w.heap.size 3 1 (.slice (some ⟨g, 0, none⟩) ks.length kc) ks.length (icells ((List.range ks.length).map (Tr.kidAt l p))) ∧ Sep z (.slice (some ⟨g, 0, none⟩) ks.length kc) := by
                  intro w8 w9 r ba bc hr hB8 hb9 hh9 hB9
                  have hac9 := own_below (own_below hac7 hB8) hB9
                  have hki9 := own_below (own_below hki7 hB8) hB9
                  have hr9 := own_below hr hB9
                  have hA9 := (hA7'.trans (hB8.mono hA7'.size)).trans (hB9.mono (Nat.le_trans hA7'.size hB8.size))
                  have hz8 := hB8.size
                  refine (without_any acc (Tr.free kt) (Tr.binds x k) w.heap.size _ _ _ w9 hA9.size hac9 (IsTexts.own hr9) hb9 ?_ ?_ (by omega) (by omega)).mono ?_
                  · intro b o n c' hh e2
                    have k1 := (hac7.lt b e2.symm).2
                    have k2 := (hr.lt b (by rw [hh]; rfl)).1
                    omega
                  · intro b o n c' hh e2
                    have k1 := (hac7.lt b e2.symm).2
                    have k2 := hh9 b o n c' hh
                    omega
                  · rintro e' w' ⟨z, rfl, h1, h2, h3⟩
                    refine ⟨z, rfl, h1, hA9.grown h2 hA9.size (fun y ey => (hac9.lt y ey).1), hki9.kept h2 hsp.symm, sep_grew h3 hsp (fun y ey => (hki9.lt y ey).2)⟩
                clear hac7 hki7 hq7 hlow7 hA7 hl7
                have hwl := Tr.wo_len (Tr.free kt) acc (Tr.binds x k)
                have HMM : Aside ((max (h1 : Int) (Tr.high kt : Int)) = ((h2 : Nat) : Int)) := by show _ = _; have := HHI.out; omega
                first | go_region_with (first | (go_at_call 31; refine hfe.mono ?_; rintro e' w8 ⟨r, ns, rfl, hns, hr8, hB8⟩; obtain rfl := hfr ns hns; have hc8 := hcell8 w8 hB8) | (go_at_call 32; refine (hbn _).mono ?_; rintro e' w9 ⟨ba, bc, rfl, hb9, hh9, hB9⟩) | (go_at_call 30; refine (hwo _ _ _ _ _ hr8 hB8 hb9 hh9 hB9).mono ?_; rintro e' w10 ⟨z, rfl, z1, z2, z3, z4⟩)) | fail
                all_goals
                  clear hwo hfe hbn hcell8 p0 p1 p2 p3 p4 p5 p6 p7 hc8
                  go_wp2_with fail
                  go_roundg (ks.length - (k + 1))
                  case measure => omega
                  case rel => exact ⟨k + 1, _, by omega, by rw [HPN.out], by rw [HH2.out]; exact congrArg (Value.int .i64) (by have := HMM.out; omega), by go_num, z1, by have := HLN.out; omega, z2, z3, z4, HFS⟩
              · have hk' : ¬ (k : Int) < (ks.length : Int) := by omega
                have hke : k = ks.length := by omega
                have hpe : Tr.kidAt l p k = e := by rw [hke]; exact PA.last
                have hhi : Tr.highs (ks.take k) = Tr.highs ks := by rw [List.take_of_length_le (by omega)]
                have HAC : Aside (Tr.frs x 0 [] ks = acc) := by show _ = _; rw [HFR.out, hke, List.drop_length]; rfl
                rw [hpe, hhi]
                have hli := hl.below hBi
                obtain ⟨hcu, hlen5⟩ := hli.cut (i := p) (j := e) PA.lt PA.le
                rw [PA.all] at hcu hlen5
                have hfp := Tr.flat_pos (.nd x ks)
                have hwt : Tr.wf (.nd x ks) := by rw [Tr.wf]; exact ⟨PA.kids, PA.wfk⟩
                have hle := PA.le
                have hlt := PA.lt
                have hfit : Fits (Tr.flat (.nd x ks)) := hf.sub (fun y hy => by rw [← PA.all] at hy; exact List.mem_of_mem_drop (List.mem_of_mem_take hy)) (by omega)
                have hcp := copyNodes_any (Tr.flat (.nd x ks)) hfp (by omega) _ wr hcu
                rw [hlen5] at hcp
                have hck := PA.chk
                have hdp : deepN (Tr.flat (.nd x ks)) = Tr.highs ks + 1 := by rw [deep_tree hwt, Tr.high]
                have hfr : x.kind ≠ 4 → ∀ ns, freeN (Tr.flat (.nd x ks)) ns → ns = acc := fun h ns hn => by
                  rw [freeN_tree hwt (by rw [hck]) hn, Tr.free_node h, HAC.out]
                have hxa := PA.at'
                have hal3 : acc.length ≤ 300 := by
                  have h1 := PA.sum
                  rw [List.take_of_length_le (by omega)] at hal
                  omega
                have hmx : Tr.highs ks ≤ 64 := by have h1 := PA.dp; rw [Tr.high] at h1; omega
                have hne : ((e : Int) != (e : Int)) = false := by simp
                have g3 : (p : Int) ≤ (e : Int) := by omega
                have g4 : (e : Int) ≤ (c : Int) := by omega
                clear PA HFR hpe hhi hke hwt hal hki hsp
                generalize Tr.flat (.nd x ks) = tl at *
                generalize Tr.highs ks = hh at *
                go_upto_region 28 with (go_at_call 29; refine hcp.mono ?_; rintro e' w6 ⟨qa, qc, rfl, hq6, hlow6, hB6⟩)
                have hA6 := hBi.trans (hB6.mono hBi.size)
                have hac6 := own_below hacc hB6
                have hce := treeCheck_any tl hfit _ w6 hq6
                rw [hck] at hce
                clear hcp hB6 hBi hacc hcu hli g3 g4
                go_upto_region 29 with (go_at_call 12; refine hce.mono ?_; rintro e' w7 ⟨rfl, hB7⟩)
                have hA7 := hA6.trans (hB7.mono hA6.size)
                have hac7 := own_below hac6 hB7
                have hq7 := hq6.below hB7
                have hlow7 := hlow6.mono hB7.size
                have hde := deep_any tl hfit _ w7 hq7
                rw [hdp] at hde
                clear hce hB7 hA6 hac6 hq6 hlow6
                go_upto_region 31 with (go_at_call 24; refine hde.mono ?_; rintro e' w8 ⟨rfl, hB8⟩)
                have hA8 := hA7.trans (hB8.mono hA7.size)
                have hac8 := own_below hac7 hB8
                have hq8 := hq7.below hB8
                have hlow8 := hlow7.mono hB8.size
                have hl8 := hl.below hA8
                obtain ⟨b2, o2, hab, _, _, hcx8⟩ := hl8.at hxa
                cases hab
                have c8 : w8.cell? ⟨b1, o1 + p * 8, none⟩ = some (.int .i8 x.kind) := hcx8 0 _ rfl
                clear hde hB8 hA7 hac7 hq7 hlow7 hcx8
                by_cases hk4 : x.kind = 4
                · have hk4' : (x.kind != 4) = false := by rw [hk4]; rfl
                  clear hfr hk4
                  go_wp2_with fail
                  go_roundg (l.length - (p + 1))
                  case measure => omega
                  case rel => exact ⟨p + 1, by omega, by go_num, hA8⟩
                · have hk4' : (x.kind != 4) = true := by simpa using hk4
                  have hfe := free_any tl hfit _ w8 hq8 hlow8
                  have hfr2 := hfr hk4
                  clear hfr hk4
                  go_wp2_with (first | (go_at_call 31; refine hfe.mono ?_; rintro e' w9 ⟨r, ns, rfl, hns, hr9, hB9⟩; obtain rfl := hfr2 ns hns; have hac9 := own_below hac8 hB9; have heq := eqTexts_same ns (by omega) _ _ w9 (IsTexts.own hr9) (IsTexts.own hac9)) | (go_at_call 33; refine heq.mono ?_; rintro e' w10 ⟨rfl, m, rfl⟩))
                  go_roundg (l.length - (p + 1))
                  case measure => omega
                  case rel => exact ⟨p + 1, by omega, by go_num, below_drewN (hA8.trans (hB9.mono hA8.size)) _⟩
        · have hp' : ¬ (p : Int) < (l.length : Int) := by omega
          go_wp2_with fail
          go_ret
          exact ⟨rfl, hB⟩
  · have h0' : (((chkN l).1 : Int) != 0) = true := by simpa using h0
    generalize (chkN l).1 = r1 at *
    generalize (chkN l).2 = r2
    go_wp2_with fail
    go_ret
    exact ⟨rfl, hA2⟩
end Go.Proofs.YtkcehgpcimlamaaDoor
