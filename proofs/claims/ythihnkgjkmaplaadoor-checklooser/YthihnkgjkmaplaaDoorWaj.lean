/- CheckLooser returns true. -/
import Derived.Test.YthihnkgjkmaplaaDoorWah
import Derived.Test.YthihnkgjkmaplaaDoorWai
import Derived.Deep.RegionHeld3
import Derived.Deep.DrawnRows
namespace Go.Proofs.YthihnkgjkmaplaaDoor
open Go.RowKit Ck
open T3.Tp (Ty enc cns met prc)
open Tr (flat wf)
set_option maxRecDepth 100000
set_option linter.unusedSimpArgs false
attribute [local go_sem ↓] Go.wp_at_zero Go.wp_at_succ

/-- What the looser tree and the looser types give. -/
theorem looser_good {l l1 : List Tr.Nd} {N Th T2 : List (List UInt8)} {ts : List Ty} {t : Tr.T} {a : List Ty} (hc : (chkN l).1 = 0) (hw : wf t) (hl : l = flat t) (hk : ckT (envOf N ts) t 0 = .ok a) (hE : envB N Th = true) (h3 : Th = ts.map enc) (hN : N.length = ts.length)
    (hL : looL l l1) (h2 : T2.length = Th.length) (hp : ∀ (j : Nat) s u, Th[j]? = some s → T2[j]? = some u → ∃ a c : Ty, S s = S (enc a) ∧ S u = S (enc c) ∧ prc a c = true ∧ (enc c).length ≤ 64) (hc1 : (chkN l1).1 = 0) :
    ∃ (t1 : Tr.T) (us : List Ty) (b : List Ty), wf t1 ∧ l1 = flat t1 ∧ envB N T2 = true ∧ T2 = us.map enc ∧ ckT (envOf N us) t1 0 = .ok b ∧ prcL a b := by
  obtain ⟨t0, _, e0, hmay, _, _⟩ := chk_tree hc
  obtain ⟨t1, hw1, e1, _, _, _⟩ := chk_tree hc1
  obtain ⟨hE2, us, hus, hpl⟩ := env_loose hE h3 hN h2 hp
  have hlo := looL_lo hL hmay
  rw [hl, e1] at hlo
  obtain ⟨b, hb, hy⟩ := Ck.loose hw hw1 hlo (rel_env hN hpl) hk
  exact ⟨t1, us, b, hw1, e1, hE2, hus, hb, LoY.to hy⟩

set_option maxHeartbeats 16000000 in
theorem checkLooser_any (l : List Tr.Nd) (hf : Fits l) (N Th : List (List UInt8)) (hs : ∀ p ∈ N, p.length ≤ maxLen) (vL vN vT : Value) (l1 : List Tr.Nd) (hf1 : Fits l1) (T2 : List (List UInt8)) (v1 v2 : Value) (w : World) (hl : IsNodes w vL l) (hn : T3.IsTexts w vN N) (ht : T3.IsTexts w vT Th) (hl1 : IsNodes w v1 l1) (ht2 : T3.IsTexts w v2 T2) (hG : HasG w) (hg : 5 ≤ w.heap.size) :
    Calls Tryd.prog 3 #[.agg #[vL, vN, vT], v1, v2] w fun e w' => e = .returned (.bool true) ∧ Below w.heap.size w w' := by
  obtain ⟨aL, cL, rfl⟩ := hl.form
  obtain ⟨aN, cN, rfl⟩ := txs_form hn
  obtain ⟨aT, cT, rfl⟩ := txs_form ht
  obtain ⟨a1, c1, rfl⟩ := hl1.form
  obtain ⟨a2, c2, rfl⟩ := txs_form ht2
  have hbx := CBox.new w (.slice aL l.length cL) (.slice aN N.length cN) (.slice aT Th.length cT) 25
  have hBw : Below w.heap.size w (w.alloc (.cells #[.slice aL l.length cL, .slice aN N.length cN, .slice aT Th.length cT] 25)) := (Below.refl _ _).alloc (Nat.le_refl _) _
  have hlg := long_any l N Th aL aN aT cL cN cT
  have hcx := fun (w : World) hl hn ht hG hg (hN : N.length ≤ 1000) => expr_any l hf N Th hN hs (.slice aL l.length cL) (.slice aN N.length cN) (.slice aT Th.length cT) w hl hn ht hG hg
  go_enter Tryd.func3, Tryd.ntmps3
  go_upto_region 1 with fail
  have hl := hl.below hBw
  have hn := txs_below hn hBw
  have ht := txs_below ht hBw
  have hl1 := hl1.below hBw
  have ht2 := txs_below ht2 hBw
  have hG := hG.below hBw
  have hg := Nat.le_trans hg hBw.size
  have HBw : Aside (Below w.heap.size w _) := hBw
  clear hBw
  generalize w.alloc _ = W0 at *
  go_wp2_with fail
  go_at_call 6
  refine (works_any _ hG hg).mono ?_
  rintro e w1 ⟨rfl, hB1⟩
  obtain ⟨hlt1, p0, p1, p2⟩ := hbx.below hB1
  go_wp2_with fail
  go_at_call 7
  refine (hlg _).mono ?_
  rintro e w2 ⟨rfl, hB2⟩
  have hB := bt hB1 hB2
  clear hB1 hB2 p0 p1 p2 hlt1 hlg
  obtain ⟨hlt1, p0, p1, p2⟩ := hbx.below hB
  cases hlb : longB l N Th with
  | true =>
    go_wp2_with fail
    go_ret
    exact ⟨rfl, bt HBw.out hB⟩
  | false =>
    obtain ⟨n1, n2, n3⟩ := long_no hlb
    clear hlb
    by_cases hq : T2.length = Th.length
    · have hq' : ((T2.length : Int) != (Th.length : Int)) = false := by simp; omega
      have HQ : Aside (T2.length = Th.length) := hq
      have n4 : T2.length ≤ 100 := by omega
      clear hq
      go_wp2_with fail
      go_at_call 8
      refine (hcx _ (hl.below hB) (txs_below hn hB) (txs_below ht hB) (hG.below hB) (Nat.le_trans hg hB.size) (by omega)).mono ?_
      rintro e w3 ⟨hB3, a, n, c, r, er, at', rfl, hx, hnr, htx, _⟩
      have hB := bt hB hB3
      clear hB3 p0 p1 p2 hlt1 hcx hq'
      obtain ⟨hlt1, p0, p1, p2⟩ := hbx.below hB
      by_cases her : er = 0
      · subst her
        obtain ⟨ts, t, x, k1, k2, k3, k4, k5, k6, rfl, k8, k9, k10⟩ := hx.zero
        have hnl : n = l.length := by rw [hnr, List.length_map, k6]
        subst hnl
        have HX : Aside (looL l l1 → (∀ (j : Nat) s u, Th[j]? = some s → T2[j]? = some u → ∃ a c : Ty, S s = S (enc a) ∧ S u = S (enc c) ∧ prc a c = true ∧ (enc c).length ≤ 64) → (chkN l1).1 = 0 → ∃ (t1 : Tr.T) (us : List Ty) (b : List Ty), wf t1 ∧ l1 = flat t1 ∧ envB N T2 = true ∧ T2 = us.map enc ∧ ckT (envOf N us) t1 0 = .ok b ∧ prcL x b) := fun h1 h2 h3 => looser_good k1 k2 k3 k4 k10 k9 k8 h1 HQ.out h2 h3
        have K5 : Aside (∀ u ∈ x, (enc u).length ≤ 64) := k5
        have K6 : Aside (x.length = l.length) := k6
        have htx : IsTexts w3 (.slice a l.length c) (x.map enc) := htx
        clear hx hnr k1 k2 k3 k4 k8 k9 k10 k5 k6
        have hlt := looserTree_any l l1 (by omega) _ _ w3 (hl.below hB) (hl1.below hB)
        go_wp2_with fail
        go_at_call 9
        refine hlt.mono ?_
        rintro e w4 ⟨b4, rfl, hb4, hB4⟩
        have hB := bt hB hB4
        have htx := txs_below (show T3.IsTexts w3 _ _ from htx) hB4
        clear hlt p0 p1 p2 hlt1 hB4
        cases b4
        · go_wp2_with fail
          go_ret
          exact ⟨rfl, bt HBw.out hB⟩
        · have HLo : Aside (looL l l1) := hb4 rfl
          clear hb4
          go_wp2_with fail
          go_loopg [11] T2.length (fun gq tq wr => ∃ k : Nat, k + gq = T2.length ∧ tq = .int .i64 (k : Int) ∧ Below W0.heap.size W0 wr ∧ T3.IsTexts wr (.slice a l.length c) (x.map enc) ∧ Aside (∀ (j : Nat) s u, j < k → Th[j]? = some s → T2[j]? = some u → ∃ a c : Ty, S s = S (enc a) ∧ S u = S (enc c) ∧ prc a c = true ∧ (enc c).length ≤ 64))
          case atStart => exact ⟨0, by omega, rfl, hB, htx, fun j s u hj => absurd hj (by omega)⟩
          case round =>
            obtain ⟨k, hkg, rfl, hBr, htr, HP⟩ := hrel
            clear hB htx
            obtain ⟨hlt1, p0, p1, p2⟩ := hbx.below hBr
            by_cases hk : k < T2.length
            · have hk' : (k : Int) < (T2.length : Int) := by omega
              have hk0 : (0 : Int) ≤ (k : Int) := by omega
              have hkt : (k : Int) < (Th.length : Int) := by have := HQ.out; omega
              obtain ⟨s, hsk⟩ := getp (a := Th) (k := k) (by omega)
              obtain ⟨u, huk⟩ := getp hk
              obtain ⟨bT, oT, rfl, hcT, hbT, cTh⟩ := txs_at (txs_below ht hBr) hsk
              obtain ⟨b2, o2, rfl, hc2, hb2, cT2⟩ := txs_at (txs_below ht2 hBr) huk
              have HP2 : Aside ((∃ a c : Ty, S s = S (enc a) ∧ S u = S (enc c) ∧ prc a c = true ∧ (enc c).length ≤ 64) → ∀ (j : Nat) s u, j < k + 1 → Th[j]? = some s → T2[j]? = some u → ∃ a c : Ty, S s = S (enc a) ∧ S u = S (enc c) ∧ prc a c = true ∧ (enc c).length ≤ 64) := fun h j s' u' hj h1 h2 => by
                by_cases e : j = k
                · subst e; rw [hsk] at h1; rw [huk] at h2; cases h1; cases h2; exact h
                · exact HP.out j s' u' (by omega) h1 h2
              have HS : ∀ W, Below wr.heap.size wr W → W.cell? ⟨w.heap.size, 2, none⟩ = some (.slice (some ⟨bT, oT, none⟩) Th.length cT) ∧ W.cell? ⟨bT, oT + k, none⟩ = some (.string (S s)) ∧ W.cell? ⟨b2, o2 + k, none⟩ = some (.string (S u)) := fun W hB => ⟨(hB.cell (p := ⟨w.heap.size, 2, none⟩) hlt1).trans p2, (hB.cell (p := ⟨bT, oT + k, none⟩) hbT).trans cTh, (hB.cell (p := ⟨b2, o2 + k, none⟩) hb2).trans cT2⟩
              have hpr : ∀ W, Below wr.heap.size wr W → Calls Tryd.prog 10 #[.string (S s), .string (S u)] W fun e w' => ∃ b, e = .returned (.bool b) ∧ (b = true → ∃ a c : Ty, S s = S (enc a) ∧ S u = S (enc c) ∧ prc a c = true ∧ (enc c).length ≤ 64) ∧ Below wr.heap.size wr w' := fun W hB => (precise_any (S s) (S u) W).mono fun e w' ⟨b, h1, h2, h3⟩ => ⟨b, h1, h2, bt hB h3⟩
              clear hsk huk p0 p1 p2 cTh cT2 HP
              generalize S s = ss at *
              generalize S u = su at *
              go_upto_region 10 with fail
              go_cut [67] (fun s67 wc => ∃ b, s67 = .bool (!b) ∧ (b = true → ∃ a c : Ty, ss = S (enc a) ∧ su = S (enc c) ∧ prc a c = true ∧ (enc c).length ≤ 64) ∧ Below wr.heap.size wr wc)
              case first =>
                go_region_held3 (fun W => W.cell? ⟨w.heap.size, 2, none⟩ = some (.slice (some ⟨bT, oT, none⟩) Th.length cT) ∧ W.cell? ⟨bT, oT + k, none⟩ = some (.string ss) ∧ W.cell? ⟨b2, o2 + k, none⟩ = some (.string su)) (first | exact HS _ (by first | assumption | exact below_drew (Below.refl _ _))) (first | (go_at_call 10; refine (hpr _ (by first | assumption | exact below_drew (Below.refl _ _))).mono ?_; rintro e w7 ⟨b7, rfl, hb7, hB7⟩))
                all_goals
                  go_wp2_with fail
                  go_meet
                  case rel => exact ⟨b7, rfl, hb7, hB7⟩
              case rest =>
                obtain ⟨b, rfl, hb, hBc⟩ := hcut
                have hB := bt hBr hBc
                have htc := txs_below htr hBc
                clear hpr HS
                cases b
                · go_wp2_with fail
                  go_ret
                  exact ⟨rfl, bt HBw.out hB⟩
                · have HB7 : Aside (∃ a c : Ty, ss = S (enc a) ∧ su = S (enc c) ∧ prc a c = true ∧ (enc c).length ≤ 64) := hb rfl
                  clear hb
                  go_wp2_with fail
                  go_roundg (T2.length - (k + 1))
                  case measure => omega
                  case rel => exact ⟨k + 1, by omega, by go_num, hB, htc, HP2.out HB7.out⟩
            · have hk' : ¬ (k : Int) < (T2.length : Int) := by omega
              have HPA : Aside (∀ (j : Nat) s u, Th[j]? = some s → T2[j]? = some u → ∃ a c : Ty, S s = S (enc a) ∧ S u = S (enc c) ∧ prc a c = true ∧ (enc c).length ≤ 64) := fun j s u h1 h2 => HP.out j s u (by have := (List.getElem?_eq_some_iff.1 h2).1; omega) h1 h2
              have hck := treeCheck_any l1 hf1 _ wr (hl1.below hBr)
              clear HP
              by_cases h0 : (chkN l1).1 = 0
              · obtain ⟨t1, us, b, q1, q2, q3, q4, q5, q6⟩ := HX.out HLo.out HPA.out h0
                have hex := fun W (hB : Below W0.heap.size W0 W) => expr_ok hf1 (N := N) (Th := T2) (by omega) hs q3 q4 h0 q1 q2 q5 (hl1.below hB) (txs_below hn hB) (txs_below ht2 hB) (hG.below hB) (Nat.le_trans hg hB.size)
                have hbl : b.length = l.length := by rw [← q6.1, K6.out]
                rw [hbl] at hex
                have Q6 : Aside (prcL x b) := q6
                have HB64 : Aside (∀ u ∈ b, (enc u).length ≤ 64) := fun u hu => by
                  obtain ⟨j, hj⟩ := List.getElem?_of_mem hu
                  have hjl := (List.getElem?_eq_some_iff.1 hj).1
                  have hxj : x[j]? = some (x[j]'(by have := q6.1; omega)) := List.getElem?_eq_getElem _
                  have h1 := q6.2 j _ u hxj hj
                  have h2 := K5.out _ (List.mem_of_getElem? hxj)
                  have h3 := T3.Tp.prc_len h1
                  omega
                rw [h0] at hck
                generalize ((chkN l1).2 : Int) = z2 at hck
                clear h0 HX HPA q1 q2 q3 q4 q5 q6 hbl
                go_wp2_with fail
                go_at_call 11
                refine hck.mono ?_
                rintro e w5 ⟨rfl, hB5⟩
                have hB := bt hBr hB5
                have htc := txs_below htr hB5
                obtain ⟨hlt5, p0', p1', p2'⟩ := (hbx.below hBr).below hB5
                clear hck hB5 p0 p1 p2
                go_wp2_with fail
                go_at_call 8
                refine (hex _ hB).mono ?_
                rintro e w6 ⟨b6, c6, rfl, ht6, hB6⟩
                have hB := bt hB hB6
                have htc := txs_below htc hB6
                clear hex hB6 p0' p1' p2'
                go_wp2_with fail
                go_loopg [17] l.length (fun gq tq wr => ∃ k : Nat, k + gq = l.length ∧ tq = .int .i64 (k : Int) ∧ Below W0.heap.size W0 wr ∧ T3.IsTexts wr (.slice a l.length c) (x.map enc) ∧ T3.IsTexts wr (.slice b6 l.length c6) (b.map enc))
                case atStart => exact ⟨0, by omega, rfl, hB, htc, ht6⟩
                case round =>
                  obtain ⟨k, hkg, rfl, hBv, hta, htb⟩ := hrel
                  clear hB htc ht6
                  by_cases hk : k < l.length
                  · have hk' : (k : Int) < (l.length : Int) := by omega
                    have hk0 : (0 : Int) ≤ (k : Int) := by omega
                    obtain ⟨xa, hxa⟩ : ∃ u, x[k]? = some u := ⟨x[k]'(by have := K6.out; omega), List.getElem?_eq_getElem _⟩
                    obtain ⟨xb, hxb⟩ : ∃ u, b[k]? = some u := ⟨b[k]'(by have := Q6.out.1; have := K6.out; omega), List.getElem?_eq_getElem _⟩
                    obtain ⟨ba, oa, rfl, hca, hba, cA⟩ := txs_at hta (k := k) (p := enc xa) (by rw [List.getElem?_map, hxa]; rfl)
                    obtain ⟨bb, ob, rfl, hcb, hbb, cB⟩ := txs_at htb (k := k) (p := enc xb) (by rw [List.getElem?_map, hxb]; rfl)
                    have hpr := fun W => T3.precise_yes xa xb (K5.out xa (List.mem_of_getElem? hxa)) (HB64.out xb (List.mem_of_getElem? hxb)) W
                    rw [show T3.Tp.prc xa xb = true from Q6.out.2 k xa xb hxa hxb] at hpr
                    have HS : ∀ W, Below wr.heap.size wr W → W.cell? ⟨ba, oa + k, none⟩ = some (.string (T3.S (enc xa))) ∧ W.cell? ⟨bb, ob + k, none⟩ = some (.string (T3.S (enc xb))) := fun W hB => ⟨(hB.cell (p := ⟨ba, oa + k, none⟩) hba).trans cA, (hB.cell (p := ⟨bb, ob + k, none⟩) hbb).trans cB⟩
                    have hpr2 : ∀ W, Below wr.heap.size wr W → Calls Tryd.prog 10 #[.string (T3.S (enc xa)), .string (T3.S (enc xb))] W fun e w' => e = .returned (.bool true) ∧ Below wr.heap.size wr w' := fun W hB => (hpr W).mono fun e w' ⟨h1, h2⟩ => ⟨h1, bt hB h2⟩
                    clear hpr hxa hxb cA cB
                    generalize T3.S (enc xa) = sa at *
                    generalize T3.S (enc xb) = sb at *
                    go_upto_region 21 with fail
                    go_cut [114] (fun s114 wc => s114 = .bool false ∧ Below wr.heap.size wr wc)
                    case first =>
                      go_region_held3 (fun W => W.cell? ⟨ba, oa + k, none⟩ = some (.string sa) ∧ W.cell? ⟨bb, ob + k, none⟩ = some (.string sb)) (first | exact HS _ (by first | assumption | exact below_drew (Below.refl _ _))) (first | (go_at_call 10; refine (hpr2 _ (by first | assumption | exact below_drew (Below.refl _ _))).mono ?_; rintro e w7 ⟨rfl, hB7⟩))
                      all_goals
                        go_wp2_with fail
                        go_meet
                        case rel => exact ⟨rfl, hB7⟩
                    case rest =>
                      obtain ⟨rfl, hBc⟩ := hcut
                      have hB := bt hBv hBc
                      have hta := txs_below hta hBc
                      have htb := txs_below htb hBc
                      clear hpr2 HS
                      go_wp2_with fail
                      go_roundg (l.length - (k + 1))
                      case measure => omega
                      case rel => exact ⟨k + 1, by omega, by go_num, hB, hta, htb⟩
                  · have hk' : ¬ (k : Int) < (l.length : Int) := by omega
                    go_wp2_with fail
                    go_ret
                    exact ⟨rfl, bt HBw.out hBv⟩
              · have h0' : (((chkN l1).1 : Int) != 0) = true := by simpa using h0
                generalize ((chkN l1).1 : Int) = z1 at *
                generalize ((chkN l1).2 : Int) = z2 at *
                clear h0 HX HPA
                go_wp2_with fail
                go_at_call 11
                refine hck.mono ?_
                rintro e w5 ⟨rfl, hB5⟩
                go_wp2_with fail
                go_ret
                exact ⟨rfl, bt HBw.out (bt hBr hB5)⟩
      · have her' : (er != 0) = true := by simpa using her
        go_wp2_with fail
        go_ret
        exact ⟨rfl, bt HBw.out hB⟩
    · have hq' : ((T2.length : Int) != (Th.length : Int)) = true := by simp; omega
      go_wp2_with fail
      go_ret
      exact ⟨rfl, bt HBw.out hB⟩
end Go.Proofs.YthihnkgjkmaplaaDoor
