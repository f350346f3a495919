/- Package core: casts. -/
import Derived.Test.YtnhihajhhlilfaaMgau
namespace Go.Proofs.Ytnhihajhhlilfaa
open Go.RowKit Co
open T3.Tp (Ty enc cns)
open Tr (T flat flats)
set_option maxRecDepth 100000
set_option linter.unusedSimpArgs false
set_option linter.unusedVariables false

set_option maxHeartbeats 4000000 in
theorem kind_cast {B cb : Nat} {nv : Value} {l : List Tr.Nd} {rb N : Nat} {x : Tr.Nd} {ks : List T} {i : Nat} {rest : List Tr.Nd} (h : Kn B cb nv l rb N x ks i rest) (hκ : x.kind = 30) : KindC B cb nv l rb 53 x ks i := by
  intro env bv w hE hen hC
  obtain ⟨a, rfl⟩ := h.one (by rw [hκ]; decide)
  obtain ⟨nb, no, nc, rfl, hlc, hnb, hnc, hcx⟩ := hC.at h.hx
  have hil : i < l.length := (List.getElem?_eq_some_iff.1 h.hx).1
  have hil' : (i : Int) < (l.length : Int) := by omega
  have hi0 : (0 : Int) ≤ (i : Int) := by omega
  have c0 := hC.nod
  obtain ⟨p0, p1, p2, p3, p4, p5, p6, p7⟩ := agg_cells (o := no + i * 8) hcx
  have ha : ahd env.length x i = if goodB x.t && goodB x.u then (if cns (tyS x.t) (tyS x.u) then (if 1 ≤ x.n ∧ x.n ≤ 2147483647 then Option.none else some (13, i)) else some (23, i)) else some (20, i) := by
    unfold ahd; simp [hκ]
  have hr : tyT env (.nd x [a]) i = match ahd env.length x i with | some e => .error e | .none => match tyT env a (i + 1) with | .error e => .error e | .ok τ => if τ = tyS x.t then .ok (tyS x.u) else .error (23, i) := by
    rw [tyT]
    have hi : inn x env = env := by unfold inn; simp [hκ]
    cases ahd env.length x i with
    | some e => rfl
    | none =>
      show (if x.kind = 8 then _ else match tyL (inn x env) [a] (i + 1) with | Except.error e => Except.error e | Except.ok ts => rul env x i ts) = _
      rw [if_neg (by omega), hi, tyL_one]
      cases tyT env a (i + 1) with
      | error e => rfl
      | ok τ =>
        show rul env x i [τ] = _
        unfold rul
        simp [hκ]
  rw [hr, ha]
  obtain ⟨W1, hW1⟩ : ∃ W1, W1 = w.alloc (.cells #[.int .i8 x.kind, .int .i64 x.kids, .int .i64 x.n, .string x.s, .string x.t, .string x.u, .int .i64 x.ln, .int .i64 x.co] 44) := ⟨_, rfl⟩
  have hB1 : Below w.heap.size w W1 := by rw [hW1]; exact (Below.refl _ _).alloc (Nat.le_refl _) _
  have hz1 : W1.heap.size = w.heap.size + 1 := by rw [hW1]; simp
  have hN1 : W1.heap[w.heap.size]? = some (.cells #[.int .i8 x.kind, .int .i64 x.kids, .int .i64 x.n, .string x.s, .string x.t, .string x.u, .int .i64 x.ln, .int .i64 x.co] 44) := by rw [hW1]; exact heap_alloc_new _ _
  have k2 := (block_cells hN1).1 2
  have k4 := (block_cells hN1).1 4
  have k5 := (block_cells hN1).1 5
  have HFB : Aside (∀ c w2, Below W1.heap.size W1 w2 → PtEnd B w cb (.slice (some ⟨nb, no, none⟩) l.length nc) bv l rb (i + 1 + (flats [a]).length) env (.error (c, i)) (.panicked (thC c i)) w2) := fun c w2 hB => ⟨rfl, Fr.below (hB1.trans (hB.mono (by omega)))⟩
  have hy := cask_yes
  have hn := cask_no
  have HKEEP : Aside (∀ w2, Below W1.heap.size W1 w2 → w2.cell? ⟨w.heap.size, 2, none⟩ = some (.int .i64 x.n) ∧ w2.cell? ⟨w.heap.size, 4, none⟩ = some (.string x.t) ∧ w2.cell? ⟨w.heap.size, 5, none⟩ = some (.string x.u)) := fun w2 hB => ⟨(hB.cell (p := ⟨w.heap.size, 2, none⟩) (by show w.heap.size < _; omega)).trans k2, (hB.cell (p := ⟨w.heap.size, 4, none⟩) (by show w.heap.size < _; omega)).trans k4, (hB.cell (p := ⟨w.heap.size, 5, none⟩) (by show w.heap.size < _; omega)).trans k5⟩
  have HPt : Aside (∀ (w2 W2 : World), Below W1.heap.size W1 w2 → (W2 = w2 ∨ W2 = w2.drew) → Calls Try.prog 27 #[.pointer (some ⟨cb, 0, none⟩), .slice none 0 0] W2 (fun e w4 => PtEnd B w cb (.slice (some ⟨nb, no, none⟩) l.length nc) bv l rb (i + 1 + (flats [a]).length) env (tyT env a (i + 1)) e w4 ∧ w4.cell? ⟨w.heap.size, 4, none⟩ = some (.string x.t) ∧ w4.cell? ⟨w.heap.size, 5, none⟩ = some (.string x.u))) := fun w2 W2 hB2 hW => by
    have hB3 : Below W1.heap.size W1 W2 := by
      rcases hW with hW | hW
      · rw [hW]; exact hB2
      · rw [hW]; exact below_drew hB2
    have hBa : Below w.heap.size w W2 := hB1.trans (hB3.mono (by omega))
    obtain ⟨-, hc4, hc5⟩ := HKEEP.out W2 hB3
    have hlt2 : w.heap.size < W2.heap.size := World.block_lt_of_cell? _ _ hc5
    have hlt := hC.lt
    refine (h.part [] (.slice none 0 0) hE hen (hC.below hBa) (.inl ⟨rfl, rfl⟩)).mono ?_
    intro e w4 h4
    have h4' : PtEnd B W2 cb (.slice (some ⟨nb, no, none⟩) l.length nc) bv l rb (i + 1 + (flats [a]).length) env (tyT env a (i + 1)) e w4 := h4
    have hfr : Fr cb bv W2 w4 := by
      cases hR : tyT env a (i + 1) with
      | error q => rw [hR] at h4'; exact h4'.2
      | ok τ => rw [hR] at h4'; obtain ⟨_, bv', _, h6⟩ := h4'; exact h6.fr
    refine ⟨?_, ?_, ?_⟩
    · cases hR : tyT env a (i + 1) with
      | error q => rw [hR] at h4'; exact ⟨h4'.1, (Mv.below hBa).thenF h4'.2⟩
      | ok τ =>
        rw [hR] at h4'
        obtain ⟨h5, bv', h6, h7⟩ := h4'
        exact ⟨h5, bv', h6, (Mv.below hBa).trans h7⟩
    · rw [hfr.cell hlt2 (by omega) (fun e => by have := own_lt hC.own _ e.symm; omega)]
      exact hc4
    · rw [hfr.cell hlt2 (by omega) (fun e => by have := own_lt hC.own _ e.symm; omega)]
      exact hc5
  clear hr ha hC h hcx hκ hN1
  generalize tyT env a (i + 1) = R at *
  generalize (flats [a]).length = m at *
  cases hgt : goodB x.t with
  | false =>
    have t1 := caskt_no x.t hgt
    have hfin := HFB.out 20 W1 (Below.refl _ _)
    show Calls _ _ _ _ (PtEnd B w cb (.slice (some ⟨nb, no, none⟩) l.length nc) bv l rb (i + 1 + m) env (.error (20, i)))
    clear HFB HKEEP HPt hgt
    go_enter Try.func53, Try.ntmps53
    go_upto_region 2 with fail
    rw [← hW1]
    clear hW1 p0 p1 p2 p3 p4 p5 p6 p7 c0
    go_wp2_with fail
    refine (t1 _ _).mono ?_
    rintro e w2 ⟨rfl, hw2⟩
    replace hw2 := hw2.symm
    subst hw2
    go_wp2_with fail
    exact ⟨rfl, hfin⟩
  | true =>
    have t1 := caskt_yes x.t hgt
    cases hgu : goodB x.u with
    | false =>
      have t2 := caskt_no x.u hgu
      have hfin := HFB.out 20 W1 (Below.refl _ _)
      show Calls _ _ _ _ (PtEnd B w cb (.slice (some ⟨nb, no, none⟩) l.length nc) bv l rb (i + 1 + m) env (.error (20, i)))
      clear HFB HKEEP HPt hgt hgu
      go_enter Try.func53, Try.ntmps53
      go_upto_region 2 with fail
      rw [← hW1]
      clear hW1 p0 p1 p2 p3 p4 p5 p6 p7 c0
      go_wp2_with fail
      refine (t1 _ _).mono ?_
      rintro e w2 ⟨rfl, hw2⟩
      replace hw2 := hw2.symm
      subst hw2
      go_wp2_with fail
      refine (t2 _ _).mono ?_
      rintro e w2 ⟨rfl, hw2⟩
      replace hw2 := hw2.symm
      subst hw2
      go_wp2_with fail
      exact ⟨rfl, hfin⟩
    | true =>
      have t2 := caskt_yes x.u hgu
      have hct : ∀ w, Calls Try.prog 66 #[.string x.t, .string x.u] w fun e w' => e = .returned (.bool (cns (tyS x.t) (tyS x.u))) ∧ Below w.heap.size w w' := fun w => by
        have := T3.consistent_yes (tyS x.t) (tyS x.u) (good_enc hgt).2 (good_enc hgu).2 w
        have e1 : T3.S (enc (tyS x.t)) = x.t := (str_good hgt).symm
        have e2 : T3.S (enc (tyS x.u)) = x.u := (str_good hgu).symm
        rw [e1, e2] at this
        exact this
      cases hcn : cns (tyS x.t) (tyS x.u) with
      | false =>
        rw [hcn] at hct
        have HF := HFB.out 23
        have HF2 : Aside _ := HF
        show Calls _ _ _ _ (PtEnd B w cb (.slice (some ⟨nb, no, none⟩) l.length nc) bv l rb (i + 1 + m) env (.error (23, i)))
        clear HFB HKEEP HPt hgt hgu hcn HF
        go_enter Try.func53, Try.ntmps53
        go_upto_region 2 with fail
        rw [← hW1]
        clear hW1 p0 p1 p2 p3 p4 p5 p6 p7 c0
        go_wp2_with fail
        refine (t1 _ _).mono ?_
        rintro e w2 ⟨rfl, hw2⟩
        replace hw2 := hw2.symm
        subst hw2
        go_wp2_with fail
        refine (t2 _ _).mono ?_
        rintro e w2 ⟨rfl, hw2⟩
        replace hw2 := hw2.symm
        subst hw2
        go_wp2_with fail
        refine (hct _).mono ?_
        rintro e w2 ⟨rfl, hB2⟩
        have hfin := HF2.out w2 hB2
        clear hct HF2
        go_wp2_with fail
        refine (hn _ _ _).mono ?_
        rintro e w3 ⟨rfl, hw3⟩
        replace hw3 := hw3.symm
        subst hw3
        go_wp2_with fail
        exact ⟨rfl, hfin⟩
      | true =>
        rw [hcn] at hct
        by_cases hlb : 1 ≤ x.n ∧ x.n ≤ 2147483647
        · have hl1 : (1 : Int) ≤ x.n := hlb.1
          have hl2 : x.n ≤ (2147483647 : Int) := hlb.2
          simp only [Bool.and_self, if_true, if_pos hlb]
          clear HFB
          cases R with
          | error q =>
            show Calls _ _ _ _ (PtEnd B w cb (.slice (some ⟨nb, no, none⟩) l.length nc) bv l rb (i + 1 + m) env (.error q))
            clear hgt hgu hcn hlb
            go_enter Try.func53, Try.ntmps53
            go_upto_region 2 with fail
            rw [← hW1]
            clear hW1 p0 p1 p2 p3 p4 p5 p6 p7 c0
            go_wp2_with fail
            refine (t1 _ _).mono ?_
            rintro e w2 ⟨rfl, hw2⟩
            replace hw2 := hw2.symm
            subst hw2
            go_wp2_with fail
            refine (t2 _ _).mono ?_
            rintro e w2 ⟨rfl, hw2⟩
            replace hw2 := hw2.symm
            subst hw2
            go_wp2_with fail
            refine (hct _).mono ?_
            rintro e w2 ⟨rfl, hB2⟩
            have hPt := fun W2 => HPt.out w2 W2 hB2
            obtain ⟨m2, m4, m5⟩ := HKEEP.out w2 hB2
            clear hct HPt HKEEP k2 k4 k5
            go_wp2_with (go_at_call 55; refine (hy _ _ _).mono ?_; rintro e w3 ⟨rfl, hw3⟩; replace hw3 := hw3.symm; subst hw3)
            go_region_with (go_at_call 27; refine (hPt _ (by first | exact .inl rfl | exact .inr rfl)).mono ?_; rintro e w4 ⟨h4, -⟩; have he := h4.1; subst he; refine (fun (_ : wpAny Try.prog .any #[] (fun _ _ _ => True) 0 #[] ⟨#[], []⟩ w4) => ⟨rfl, h4⟩) ?_)
            all_goals trivial
          | ok τ =>
            show Calls _ _ _ _ (PtEnd B w cb (.slice (some ⟨nb, no, none⟩) l.length nc) bv l rb (i + 1 + m) env (if τ = tyS x.t then .ok (tyS x.u) else .error (23, i)))
            have hux := str_good hgu
            have htx := str_good hgt
            by_cases hτ : τ = tyS x.t
            · rw [if_pos hτ]
              subst hτ
              have hS : ∀ (i : Int) (w : World), Calls Try.prog 60 #[.int .i64 i, .string (S (enc (tyS x.t))), .string x.t] w fun en w' => en = .returned (.tuple #[]) ∧ w' = w := fun i w => by
                have := casks_yes (tyS x.t) i w
                rw [← htx] at this ⊢
                exact this
              have HF : Aside (∀ e w4, PtEnd B w cb (.slice (some ⟨nb, no, none⟩) l.length nc) bv l rb (i + 1 + m) env (.ok (tyS x.t)) e w4 → PtEnd B w cb (.slice (some ⟨nb, no, none⟩) l.length nc) bv l rb (i + 1 + m) env (.ok (tyS x.u)) (.returned (.string x.u)) w4) := fun e w4 h4 => by
                obtain ⟨_, bv', h6, h7⟩ := h4
                exact ⟨by rw [← hux], bv', h6, h7⟩
              clear hgt hgu hcn hlb hux htx
              go_enter Try.func53, Try.ntmps53
              go_upto_region 2 with fail
              rw [← hW1]
              clear hW1 p0 p1 p2 p3 p4 p5 p6 p7 c0
              go_wp2_with fail
              refine (t1 _ _).mono ?_
              rintro e w2 ⟨rfl, hw2⟩
              replace hw2 := hw2.symm
              subst hw2
              go_wp2_with fail
              refine (t2 _ _).mono ?_
              rintro e w2 ⟨rfl, hw2⟩
              replace hw2 := hw2.symm
              subst hw2
              go_wp2_with fail
              refine (hct _).mono ?_
              rintro e w2 ⟨rfl, hB2⟩
              have hPt := fun W2 => HPt.out w2 W2 hB2
              obtain ⟨m2, m4, m5⟩ := HKEEP.out w2 hB2
              clear hct HPt HKEEP k2 k4 k5
              go_wp2_with (go_at_call 55; refine (hy _ _ _).mono ?_; rintro e w3 ⟨rfl, hw3⟩; replace hw3 := hw3.symm; subst hw3)
              go_region_with (first | (go_at_call 27; refine (hPt _ (by first | exact .inl rfl | exact .inr rfl)).mono ?_; rintro e w4 ⟨h4, hc4, hc5⟩; have he := h4.1; subst he; have hfin := HF.out _ w4 h4) | (go_at_call 60; refine (hS _ _).mono ?_; rintro e w5 ⟨rfl, hw5⟩; replace hw5 := hw5.symm; subst hw5))
              all_goals
                clear hPt HF hS h4
                go_wp2_with fail
                go_ret
                exact hfin
            · rw [if_neg hτ]
              have hS : ∀ (i : Int) (w : World), Calls Try.prog 60 #[.int .i64 i, .string (S (enc τ)), .string x.t] w fun en w' => en = .panicked (thC 23 i) ∧ w' = w := fun i w => by
                have := casks_no τ (tyS x.t) hτ i w
                rw [← htx] at this
                exact this
              have HF : Aside (∀ e w4, PtEnd B w cb (.slice (some ⟨nb, no, none⟩) l.length nc) bv l rb (i + 1 + m) env (.ok τ) e w4 → PtEnd B w cb (.slice (some ⟨nb, no, none⟩) l.length nc) bv l rb (i + 1 + m) env (.error (23, i)) (.panicked (thC 23 i)) w4) := fun e w4 h4 => by
                obtain ⟨_, bv', h6, h7⟩ := h4
                exact ⟨rfl, h7.fr⟩
              clear hgt hgu hcn hlb hux htx hτ
              go_enter Try.func53, Try.ntmps53
              go_upto_region 2 with fail
              rw [← hW1]
              clear hW1 p0 p1 p2 p3 p4 p5 p6 p7 c0
              go_wp2_with fail
              refine (t1 _ _).mono ?_
              rintro e w2 ⟨rfl, hw2⟩
              replace hw2 := hw2.symm
              subst hw2
              go_wp2_with fail
              refine (t2 _ _).mono ?_
              rintro e w2 ⟨rfl, hw2⟩
              replace hw2 := hw2.symm
              subst hw2
              go_wp2_with fail
              refine (hct _).mono ?_
              rintro e w2 ⟨rfl, hB2⟩
              have hPt := fun W2 => HPt.out w2 W2 hB2
              obtain ⟨m2, m4, m5⟩ := HKEEP.out w2 hB2
              clear hct HPt HKEEP k2 k4 k5
              go_wp2_with (go_at_call 55; refine (hy _ _ _).mono ?_; rintro e w3 ⟨rfl, hw3⟩; replace hw3 := hw3.symm; subst hw3)
              go_region_with (first | (go_at_call 27; refine (hPt _ (by first | exact .inl rfl | exact .inr rfl)).mono ?_; rintro e w4 ⟨h4, hc4, hc5⟩; have he := h4.1; subst he; have hfin := HF.out _ w4 h4) | (go_at_call 60; refine (hS _ _).mono ?_; rintro e w5 ⟨rfl, hw5⟩; replace hw5 := hw5.symm; subst hw5; refine (fun (_ : wpAny Try.prog .any #[] (fun _ _ _ => True) 0 #[] ⟨#[], []⟩ w4) => ⟨rfl, hfin⟩) ?_))
              all_goals trivial
        · simp only [Bool.and_self, if_true, if_neg hlb]
          have HF := HFB.out 13
          have HF2 : Aside _ := HF
          show Calls _ _ _ _ (PtEnd B w cb (.slice (some ⟨nb, no, none⟩) l.length nc) bv l rb (i + 1 + m) env (.error (13, i)))
          clear HFB HPt hgt hgu hcn HF
          by_cases hl1 : (1 : Int) ≤ x.n
          · have hl2 : decide (x.n ≤ (2147483647 : Int)) = false := by simp; omega
            clear hlb
            go_enter Try.func53, Try.ntmps53
            go_upto_region 2 with fail
            rw [← hW1]
            clear hW1 p0 p1 p2 p3 p4 p5 p6 p7 c0
            go_wp2_with fail
            refine (t1 _ _).mono ?_
            rintro e w2 ⟨rfl, hw2⟩
            replace hw2 := hw2.symm
            subst hw2
            go_wp2_with fail
            refine (t2 _ _).mono ?_
            rintro e w2 ⟨rfl, hw2⟩
            replace hw2 := hw2.symm
            subst hw2
            go_wp2_with fail
            refine (hct _).mono ?_
            rintro e w2 ⟨rfl, hB2⟩
            have hfin := HF2.out w2 hB2
            obtain ⟨m2, m4, m5⟩ := HKEEP.out w2 hB2
            clear hct HF2 HKEEP k2 k4 k5
            go_wp2_with fail
            refine (hy _ _ _).mono ?_
            rintro e w3 ⟨rfl, hw3⟩
            replace hw3 := hw3.symm
            subst hw3
            go_wp2_with fail
            refine (hn _ _ _).mono ?_
            rintro e w3 ⟨rfl, hw3⟩
            replace hw3 := hw3.symm
            subst hw3
            go_wp2_with fail
            exact ⟨rfl, hfin⟩
          · clear hlb
            go_enter Try.func53, Try.ntmps53
            go_upto_region 2 with fail
            rw [← hW1]
            clear hW1 p0 p1 p2 p3 p4 p5 p6 p7 c0
            go_wp2_with fail
            refine (t1 _ _).mono ?_
            rintro e w2 ⟨rfl, hw2⟩
            replace hw2 := hw2.symm
            subst hw2
            go_wp2_with fail
            refine (t2 _ _).mono ?_
            rintro e w2 ⟨rfl, hw2⟩
            replace hw2 := hw2.symm
            subst hw2
            go_wp2_with fail
            refine (hct _).mono ?_
            rintro e w2 ⟨rfl, hB2⟩
            have hfin := HF2.out w2 hB2
            obtain ⟨m2, m4, m5⟩ := HKEEP.out w2 hB2
            clear hct HF2 HKEEP k2 k4 k5
            go_wp2_with fail
            refine (hy _ _ _).mono ?_
            rintro e w3 ⟨rfl, hw3⟩
            replace hw3 := hw3.symm
            subst hw3
            go_wp2_with fail
            refine (hn _ _ _).mono ?_
            rintro e w3 ⟨rfl, hw3⟩
            replace hw3 := hw3.symm
            subst hw3
            go_wp2_with fail
            exact ⟨rfl, hfin⟩
end Go.Proofs.Ytnhihajhhlilfaa
