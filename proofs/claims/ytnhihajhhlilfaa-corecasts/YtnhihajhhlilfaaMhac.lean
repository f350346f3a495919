/- CoreCasts returns true, whatever list is handed in: the walk. -/
import Derived.Test.YtnhihajhhlilfaaMhab
import Derived.StillTailTactics
namespace Go.Proofs.Ytnhihajhhlilfaa
open Go.RowKit Co
open T3.Tp (Ty enc cns)
open Tr (T Nd flat flats)
set_option maxRecDepth 100000
set_option linter.unusedSimpArgs false
set_option linter.unusedVariables false

/-- A statement that is not to be laid open. -/
structure Hide (p : Prop) : Prop where
  out : p
theorem wpStill_stepH {P : Program} {ops : Array Oper} {w : World} {Q : Act → Prop} {a : Act} {o : Oper} {rest : List Oper}
    (h : ∀ K : Act → Prop, (∀ a, Hide (wpStill P ops w Q rest a) → K a) → if Region.wanted o (yielded ops a.tmps) then o.still P a w K else K (a.put o.dst undef)) : Hide (wpStill P ops w Q (o :: rest) a) :=
  ⟨wpStill_step fun K hK => h K fun a ha => hK a ha.out⟩
theorem wpStill_nilH {P : Program} {ops : Array Oper} {w : World} {Q : Act → Prop} {a : Act} (h : Q a) : Hide (wpStill P ops w Q [] a) := ⟨h⟩
/-- How the program's Casts ends, by what the check said. -/
def CaR (w : World) (L : List Nd) (r : Rs Ty) (e : Ending) (w' : World) : Prop := match r with
  | .error q => e = .returned (.tuple #[.slice none 0 0, .int .i64 q.1])
  | .ok _ => ∃ cv, e = .returned (.tuple #[cv, .int .i64 0]) ∧ w'.ownsRow w.heap.size 36 3 cv L.length (crow L)
set_option maxHeartbeats 32000000 in
theorem coreCasts_any (H9 : Dru9) (l : List Tr.Nd) (hn : l.length ≤ 2199023255552) (hf : FitC l) (hT : Texts l) (v : Value) (w : World) (hl : IsNodes w v l) :
    Calls Try.prog 4 #[v] w fun e w' => e = .returned (.bool true) ∧ Below w.heap.size w w' := by
  obtain ⟨i0, hi, hz0, hz1, hz2⟩ := info_parts infoL
  obtain ⟨a, c, rfl⟩ := hl.form
  have hL := dlong_any l hn hT _ w hl
  obtain ⟨r, hr⟩ : ∃ r, Co.check l = r := ⟨_, rfl⟩
  have HV : Aside (∀ w', Below w.heap.size w w' → IsNodes w' (.slice a l.length c) l) := fun w' hB => hl.below hB
  have HD : Aside (∀ w', l.length ≤ 32768 → Below w.heap.size w w' → Calls Try.prog 10 #[.slice a l.length c] w' fun e w2 => e = .returned (.tuple #[.string (ckS r), .int .i64 (ckE r), .int .i64 (ckA r)]) ∧ Below w'.heap.size w' w2) := fun w' h3 hB => by
    rw [← hr]; exact dck_any H9 l (by omega) hf _ w' (hl.below hB)
  have HC : Aside (∀ w' v', l.length ≤ 32768 → IsNodes w' v' l → Calls Try.prog 13 #[v'] w' fun e w2 => Below w'.heap.size w' w2 ∧ CaR w' (castL l) r e w2) := fun w' v' h3 hv => by
    have := ccasts_any l (by omega) hf v' w' hv
    unfold CaEnd at this
    rw [hr] at this
    exact this
  have HP : Aside (∀ q, r = .error q → q.1 ≠ 0) := fun q h => check_pos (hr.trans h)
  have HLE : Aside ((castL l).length ≤ l.length) := ncasts_le l
  clear hr hf hT H9 hl hn
  go_enter Try.func4, Try.ntmps4
  go_wp2_with fail
  refine hL.mono ?_
  rintro e w1 ⟨b, rfl, hb, hB1⟩
  clear hL
  cases b with
  | true =>
    clear hb HV HD HC HP
    go_wp2_with fail
    refine (works_any _).mono ?_
    rintro e w2 ⟨rfl, hB2⟩
    have hA := bt hB1 hB2
    clear hB1 hB2
    go_wp2_with fail
    go_ret
    exact ⟨rfl, hA⟩
  | false =>
    have h3 := hb rfl
    clear hb
    have hD := HD.out w1 h3 hB1
    go_wp2_with fail
    refine hD.mono ?_
    rintro e w2 ⟨rfl, hB2'⟩
    have hB2 := bt hB1 hB2'
    clear hD HD hB1 hB2'
    go_wp2_with fail
    go_at_call 14
    refine (copy_any l (by omega) _ w2 (HV.out w2 hB2)).mono ?_
    rintro e w3 ⟨v3, rfl, hv3, hB3'⟩
    have hB3 := bt hB2 hB3'
    have hC := HC.out w3 v3 h3 hv3
    clear hB2 hB3' hv3
    go_wp2_with fail
    refine hC.mono ?_
    clear hC
    cases r with
    | error q =>
      rintro e w4 ⟨hB4', rfl⟩
      have hB4 := bt hB3 hB4'
      have hq : (q.1 != 0) = true := by simpa using HP.out q rfl
      have e1 : ckE (.error q : Rs Ty) = q.1 := rfl
      have hqq : (q.1 == q.1) = true := by simp
      clear HC HP HV hB3 hB4'
      generalize ckE (.error q : Rs Ty) = ce at *
      subst e1
      go_wp2_with fail
      refine (works_any _).mono ?_
      rintro e w5 ⟨rfl, hB5⟩
      have hA := bt hB4 hB5
      clear hB4 hB5
      go_wp2_with fail
      go_ret
      exact ⟨rfl, hA⟩
    | ok τ =>
      rintro e w4 ⟨hB4', cv, rfl, ho4⟩
      have hB4 := bt hB3 hB4'
      obtain ⟨ca, cc, rfl⟩ := own_len ho4
      have e1 : ckE (.ok τ : Rs Ty) = 0 := rfl
      have hC5 := dcasts_any l (by omega) _ w4 (HV.out w4 hB4)
      have hz3 := hB3.size
      have hz34 := hB4'.size
      obtain ⟨L, hLL⟩ : ∃ L, castL l = L := ⟨_, rfl⟩
      rw [hLL] at ho4 hC5 HC HLE ⊢
      clear hLL HP hB3 hB4'
      have hnl : L.length ≤ 32768 := by have := HLE.out; omega
      go_wp2_with fail
      refine hC5.mono ?_
      rintro e w5 ⟨wv, rfl, ho5, hB5'⟩
      obtain ⟨wa, wc, rfl⟩ := own_len ho5
      have HLT4 : Aside (∀ g, Value.ownBlock (.slice ca L.length cc) = some g → w3.heap.size ≤ g ∧ g < w4.heap.size) := fun g e => ho4.lt g e
      replace ho4 := own_below3 ho4 hB5'
      have hB5 := bt hB4 hB5'
      have hz45 := hB5'.size
      clear hC5 hB4 hB5'
      go_wp2_with fail
      go_loopg [9] L.length (fun g tt wr => ∃ k : Nat, k + g = L.length ∧ tt = .int .i64 (k : Int) ∧ Sm w5 wr)
      case atStart => exact ⟨0, by omega, rfl, Sm.refl _⟩
      case round =>
        obtain ⟨k, hkg, rfl, hSm⟩ := hrel
        have hk0 : (0 : Int) ≤ (k : Int) := by omega
        replace ho4 := hSm.own ho4
        replace ho5 := hSm.own ho5
        by_cases hk : k < L.length
        · have hk' : (k : Int) < (L.length : Int) := by omega
          obtain ⟨x, hx⟩ : ∃ x, L[k]? = some x := ⟨_, List.getElem?_eq_getElem hk⟩
          obtain ⟨g1, rfl, hc1, -, -, -, hg1⟩ := own3_at ho4 hk
          obtain ⟨g2, rfl, hc2, -, -, -, hg2⟩ := own3_at ho5 hk
          obtain ⟨r0, r1, r2⟩ := crow_at hx
          have p0 := (hg1 (k * 3) (by omega)).trans r0
          have p1 := (hg1 (k * 3 + 1) (by omega)).trans r1
          have p2 := (hg1 (k * 3 + 2) (by omega)).trans r2
          have q0 := (hg2 (k * 3) (by omega)).trans r0
          have q1 := (hg2 (k * 3 + 1) (by omega)).trans r1
          have q2 := (hg2 (k * 3 + 2) (by omega)).trans r2
          have x0 : (x.n != x.n) = false := by simp
          have x1 : (x.t.toList != x.t.toList) = false := by simp
          have x2 : (x.u.toList != x.u.toList) = false := by simp
          clear r0 r1 r2 hg1 hg2 hx ho4 ho5 HV HC hB5 HLT4
          go_wp2_with fail
          go_quiet (fail)
          go_wp2_with fail
          go_roundg (gk - 1)
          case measure => omega
          case rel => exact ⟨k + 1, by omega, by go_num, by first | exact hSm.drewN _ | exact hSm.drew | exact hSm⟩
        · have hk' : ¬ (k : Int) < (L.length : Int) := by omega
          have hB5r := bt hB5 hSm.below
          have hzr : w5.heap.size ≤ wr.heap.size := by rw [hSm.heap]; exact Nat.le_refl _
          have hownA : ∀ ob, (wr.alloc ob).ownsRow w3.heap.size 36 3 (.slice ca L.length cc) L.length (crow L) := fun ob => ho4.alloc _
          have HO5 : Aside (∀ ob w6, (wr.alloc ob).grownBy w6 (Value.ownBlock (.slice ca L.length cc)) → w6.ownsRow w4.heap.size 37 3 (.slice wa L.length wc) L.length (crow L) ∧ Below w.heap.size w w6) := fun ob w6 hg => by
            refine ⟨own_kept3 (ho5.alloc ob) hg (fun g e => (HLT4.out g e).2), ?_⟩
            exact (balloc hB5r ob).grown hg (by simp; omega) (fun q e => by have := (HLT4.out q e).1; omega)
          have hnews := cells_list_new wr [.int .i64 (-1), .string ⟨#[]⟩, .string ⟨#[]⟩] 36
          clear hSm ho4 ho5 hB5 hB5r
          go_upto_region 16 with (at_builtin; go_must (refine wpList_append_both _ rfl _ _ 30 rfl w3.heap.size 36 i0 _ 3 40 tyLaids hi hz0 hz1 hz2 rfl (by decide) (.slice ca L.length cc) L.length _ rfl (hownA _) ⟨wr.heap.size, 0, none⟩ 1 1 (by decide) [.int .i64 (-1), .string ⟨#[]⟩, .string ⟨#[]⟩] rfl rfl hnews (by intro u hu; simp at hu; rcases hu with rfl | rfl <;> rfl) (by unfold maxLen; omega) (by omega) (by simp; omega) ?_); intro g6 c6 w6 ho6 hg6)
          obtain ⟨ho5, hB6⟩ := HO5.out _ w6 hg6
          have hz6 := hg6.size
          simp at hz6
          clear hownA hnews HO5 hg6
          go_wp2_with fail
          go_at_call 14
          refine (copy_any l (by omega) _ w6 (HV.out w6 hB6)).mono ?_
          rintro e w7 ⟨v7, rfl, hv7, hB7'⟩
          have hC := HC.out w7 v7 h3 hv7
          replace ho6 := own_below3 ho6 hB7'
          replace ho5 := own_below3 ho5 hB7'
          have hB7 := bt hB6 hB7'
          have hz67 := hB7'.size
          clear hB6 hB7' hv7 HC HV
          go_wp2_with fail
          refine hC.mono ?_
          rintro e w8 ⟨hB8', mv, rfl, ho8⟩
          obtain ⟨ma, mc, rfl⟩ := own_len ho8
          replace ho6 := own_below3 ho6 hB8'
          replace ho5 := own_below3 ho5 hB8'
          have hB8 := bt hB7 hB8'
          have hz78 := hB8'.size
          clear hC hB7 hB8'
          go_wp2_with fail
          go_loopg [13] L.length (fun g tt wq => ∃ (k : Nat) (ys : List Value), k + g = L.length ∧ tt = .int .i64 (k : Int) ∧ w8.grownBy wq (Value.ownBlock (.slice ca L.length cc)) ∧ wq.ownsRow w3.heap.size 36 3 (.slice ca L.length cc) L.length ys)
          case atStart => exact ⟨0, _, by omega, rfl, grownBy_refl _ _, ho6⟩
          case round =>
            clear ho6
            obtain ⟨k, ys, hkg, rfl, hG, hoy⟩ := hrel
            have hk0 : (0 : Int) ≤ (k : Int) := by omega
            by_cases hk : k < L.length
            · have hk' : (k : Int) < (L.length : Int) := by omega
              obtain ⟨g1, rfl, hc1, -, -, hf1, hg1⟩ := own3_at hoy hk
              have hyl : ys.length = L.length * 3 := hoy.1
              have p0 := hg1 (k * 3) (by omega)
              have p1 := hg1 (k * 3 + 1) (by omega)
              have p2 := hg1 (k * 3 + 2) (by omega)
              rw [List.getElem?_eq_getElem (by omega)] at p0 p1 p2
              generalize ys[k * 3]'(by omega) = y0 at p0
              generalize ys[k * 3 + 1]'(by omega) = y1 at p1
              generalize ys[k * 3 + 2]'(by omega) = y2 at p2
              have f0 := hf1 (k * 3)
              have f1 := hf1 (k * 3 + 1)
              have f2 := hf1 (k * 3 + 2)
              have HG : Aside (∀ o1 o2 o3 u1 u2 u3, w8.grownBy (((wr.setCell ⟨g1, o1, none⟩ u1).setCell ⟨g1, o2, none⟩ u2).setCell ⟨g1, o3, none⟩ u3) (some g1) ∧ ∃ zs, (((wr.setCell ⟨g1, o1, none⟩ u1).setCell ⟨g1, o2, none⟩ u2).setCell ⟨g1, o3, none⟩ u3).ownsRow w3.heap.size 36 3 (.slice (some ⟨g1, 0, none⟩) L.length cc) L.length zs) := fun o1 o2 o3 u1 u2 u3 => by
                refine ⟨grownBy_set (grownBy_set (grownBy_set hG u1) u2) u3, ?_⟩
                obtain ⟨z1, h1⟩ := own3_put hoy o1 u1
                obtain ⟨z2, h2⟩ := own3_put h1 o2 u2
                exact own3_put h2 o3 u3
              clear hG hoy hf1 hg1 ho5 ho8 hB8 HLT4 hyl
              go_wp2_with fail
              go_roundg (gk - 1)
              case measure => omega
              case rel =>
                obtain ⟨hG2, zs, hz⟩ := HG.out (k * 3) (k * 3 + 1) (k * 3 + 2) (.int .i64 0) (.string ⟨#[]⟩) (.string ⟨#[]⟩)
                exact ⟨k + 1, zs, by omega, by go_num, hG2, hz⟩
            · have hk' : ¬ (k : Int) < (L.length : Int) := by omega
              replace ho5 := own_kept3 ho5 hG (fun g e => (HLT4.out g e).2)
              replace ho8 := own_kept3 ho8 hG (fun g e => by have := (HLT4.out g e).2; omega)
              have hBq : Below w.heap.size w wr := hB8.grown hG (by omega) (fun q e => by have := (HLT4.out q e).1; omega)
              have hmix : Try.prog.follows .mixedOrders = true := by kernel_rfl
              have hl1 : (((L.length + 1 : Nat) : Int) == (L.length : Int) + 1) = true := by simp
              have hl2 : (((L.length : Int) + 1) == (L.length : Int) + 1) = true := by simp
              have HW : Aside (∀ w9 w10, Below wr.heap.size wr w9 → Below w9.heap.size w9 w10 → Below w.heap.size w w10) := fun w9 w10 h9 h10 => bt (bt hBq h9) h10
              have hwr : IntKind.i64.wrap ((L.length : Int) + 1) = (L.length : Int) + 1 := IntWalk.i64_in _ (by omega)
              by_cases h0 : L.length = 0
              · clear ho5 ho8 hG hoy hB8 HLT4 hBq hl1 hl2 hwr hk hkg hnl HLE
                generalize L.length = n at *
                subst h0
                have hw1 : IntKind.i64.wrap (1 : Int) = 1 := IntWalk.i64_in _ (by omega)
                go_wp2_with fail
                refine wp_region_still_tail 23 hmix (by kernel_rfl) ?_
                simp only [List.take_succ_cons, List.take_zero, List.drop_succ_cons, List.drop_zero]
                refine Hide.out ?_
                iterate 23 (refine wpStill_stepH (fun K hK => ?_); go_simp; refine hK _ ?_; clear hK K)
                refine wpStill_nilH ?_
                go_wp2_with fail
                refine (works_any _).mono ?_
                rintro e w10 ⟨rfl, hB10⟩
                go_wp2_with fail
                go_ret
                exact ⟨rfl, HW.out _ _ (by first | exact Below.refl _ _ | exact (Below.refl _ _).drew | exact below_drewN (Below.refl _ _) _) hB10⟩
              · have hl3 : ((L.length : Int) == 0) = false := beq_eq_false_iff_ne.2 (by omega)
                obtain ⟨x0, hx0⟩ : ∃ x, L[0]? = some x := ⟨_, List.getElem?_eq_getElem (by omega)⟩
                obtain ⟨g1, rfl, hc1, -, -, -, hg1⟩ := own3_at ho8 (k := 0) (by omega)
                obtain ⟨g2, rfl, hc2, -, -, -, hg2⟩ := own3_at ho5 (k := 0) (by omega)
                obtain ⟨r0, r1, r2⟩ := crow_at hx0
                have p0 : wr.cell? ⟨g1, 0, none⟩ = some (.int .i64 x0.n) := (hg1 0 (by omega)).trans r0
                have q0 : wr.cell? ⟨g2, 0, none⟩ = some (.int .i64 x0.n) := (hg2 0 (by omega)).trans r0
                have x1 : (x0.n == x0.n) = true := by simp
                have h00 : (0 : Int) < (L.length : Int) := by omega
                have h01 : 0 < L.length := by omega
                clear ho5 ho8 hG hoy hB8 HLT4 hBq hg1 hg2 r0 r1 r2 hx0 h0
                generalize L.length = n at *
                go_wp2_with fail
                go_still_tail 23, hmix
                go_wp2_with fail
                refine (works_any _).mono ?_
                rintro e w10 ⟨rfl, hB10⟩
                go_wp2_with fail
                go_ret
                exact ⟨rfl, HW.out _ _ (by first | exact Below.refl _ _ | exact (Below.refl _ _).drew | exact below_drewN (Below.refl _ _) _) hB10⟩
end Go.Proofs.Ytnhihajhhlilfaa
