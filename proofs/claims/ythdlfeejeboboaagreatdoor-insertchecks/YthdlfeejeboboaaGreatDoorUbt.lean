/- Package core: casts. Package core: recursive. Package core: uses of two kids, choice. Package core: uses of two kids, choice. Package core: uses of two kids, choice. Package core: uses of two kids, choice. -/
import Derived.Test.YthdlfeejeboboaaGreatDoorUbb
namespace Go.Proofs.YthdlfeejeboboaaGreatDoor
open Go.RowKit Co
open T3.Tp (Ty enc cns)
open Tr (T flat flats)
set_option maxRecDepth 100000
set_option linter.unusedSimpArgs false
set_option linter.unusedVariables false

set_option maxHeartbeats 4000000 in
theorem kind_cast {B cb : Nat} {nv : Value} {l : List Tr.Nd} {rb N : Nat} {x : Tr.Nd} {ks : List T} {i : Nat} {rest : List Tr.Nd} (h : Kn B cb nv l rb N x ks i rest) (hκ : x.kind = 30) : KindC B cb nv l rb 107 x ks i := by
  intro env bv w hE hen hC
  obtain ⟨a, rfl⟩ := h.one (by rw [hκ]; decide)
  obtain ⟨nb, no, nc, rfl, hlc, hnb, hnc, hcx⟩ := hC.at h.hx
  have hil : i < l.length := (List.getElem?_eq_some_iff.1 h.hx).1
  have hil' : (i : Int) < (l.length : Int) := by omega
  have hi0 : (0 : Int) ≤ (i : Int) := by omega
  have c0 := hC.nod
  obtain ⟨p0, p1, p2, p3, p4, p5, p6, p7⟩ := agg_cells (o := no + i * 8) hcx
  have ha : ahd env.length x i = if goodB x.t && goodB x.u then (if cns (tyS x.t) (tyS x.u) then (if 1 ≤ x.n ∧ x.n ≤ 2147483647 then Option.none else some (13, i)) else some (23, i)) else some (20, i) := by
    unfold ahd; simp [hκ]
  have hr : tyT env (.nd x [a]) i = match ahd env.length x i with | some e => .error e | .none => match tyT env a (i + 1) with | .error e => .error e | .ok τ => if τ = tyS x.t then .ok (tyS x.u) else .error (23, i) := by
    rw [tyT]
    have hi : inn x env = env := by unfold inn; simp [hκ]
    cases ahd env.length x i with
    | some e => rfl
    | none =>
      show (if x.kind = 8 then _ else match tyL (inn x env) [a] (i + 1) with | Except.error e => Except.error e | Except.ok ts => rul env x i ts) = _
      rw [if_neg (by omega), hi, tyL_one]
      cases tyT env a (i + 1) with
      | error e => rfl
      | ok τ =>
        show rul env x i [τ] = _
        unfold rul
        simp [hκ]
  rw [hr, ha]
  obtain ⟨W1, hW1⟩ : ∃ W1, W1 = w.alloc (.cells #[.int .i8 x.kind, .int .i64 x.kids, .int .i64 x.n, .string x.s, .string x.t, .string x.u, .int .i64 x.ln, .int .i64 x.co] 72) := ⟨_, rfl⟩
  have hB1 : Below w.heap.size w W1 := by rw [hW1]; exact (Below.refl _ _).alloc (Nat.le_refl _) _
  have hz1 : W1.heap.size = w.heap.size + 1 := by rw [hW1]; simp
  have hN1 : W1.heap[w.heap.size]? = some (.cells #[.int .i8 x.kind, .int .i64 x.kids, .int .i64 x.n, .string x.s, .string x.t, .string x.u, .int .i64 x.ln, .int .i64 x.co] 72) := by rw [hW1]; exact heap_alloc_new _ _
  have k2 := (block_cells hN1).1 2
  have k4 := (block_cells hN1).1 4
  have k5 := (block_cells hN1).1 5
  have HFB : Aside (∀ c w2, Below W1.heap.size W1 w2 → PtEnd B w cb (.slice (some ⟨nb, no, none⟩) l.length nc) bv l rb (i + 1 + (flats [a]).length) env (.error (c, i)) (.panicked (thC c i)) w2) := fun c w2 hB => ⟨rfl, Fr.below (hB1.trans (hB.mono (by omega)))⟩
  have hy := cask_yes
  have hn := cask_no
  have HKEEP : Aside (∀ w2, Below W1.heap.size W1 w2 → w2.cell? ⟨w.heap.size, 2, none⟩ = some (.int .i64 x.n) ∧ w2.cell? ⟨w.heap.size, 4, none⟩ = some (.string x.t) ∧ w2.cell? ⟨w.heap.size, 5, none⟩ = some (.string x.u)) := fun w2 hB => ⟨(hB.cell (p := ⟨w.heap.size, 2, none⟩) (by show w.heap.size < _; omega)).trans k2, (hB.cell (p := ⟨w.heap.size, 4, none⟩) (by show w.heap.size < _; omega)).trans k4, (hB.cell (p := ⟨w.heap.size, 5, none⟩) (by show w.heap.size < _; omega)).trans k5⟩
  have HPt : Aside (∀ (w2 W2 : World), Below W1.heap.size W1 w2 → (W2 = w2 ∨ W2 = w2.drew) → Calls Tryz.prog 55 #[.pointer (some ⟨cb, 0, none⟩), .slice none 0 0] W2 (fun e w4 => PtEnd B w cb (.slice (some ⟨nb, no, none⟩) l.length nc) bv l rb (i + 1 + (flats [a]).length) env (tyT env a (i + 1)) e w4 ∧ w4.cell? ⟨w.heap.size, 4, none⟩ = some (.string x.t) ∧ w4.cell? ⟨w.heap.size, 5, none⟩ = some (.string x.u))) := fun w2 W2 hB2 hW => by
    have hB3 : Below W1.heap.size W1 W2 := by
      rcases hW with hW | hW
      · rw [hW]; exact hB2
      · rw [hW]; exact below_drew hB2
    have hBa : Below w.heap.size w W2 := hB1.trans (hB3.mono (by omega))
    obtain ⟨-, hc4, hc5⟩ := HKEEP.out W2 hB3
    have hlt2 : w.heap.size < W2.heap.size := World.block_lt_of_cell? _ _ hc5
    have hlt := hC.lt
    refine (h.part [] (.slice none 0 0) hE hen (hC.below hBa) (.inl ⟨rfl, rfl⟩)).mono ?_
    intro e w4 h4
    have h4' : PtEnd B W2 cb (.slice (some ⟨nb, no, none⟩) l.length nc) bv l rb (i + 1 + (flats [a]).length) env (tyT env a (i + 1)) e w4 := h4
    have hfr : Fr cb bv W2 w4 := by
      cases hR : tyT env a (i + 1) with
      | error q => rw [hR] at h4'; exact h4'.2
      | ok τ => rw [hR] at h4'; obtain ⟨_, bv', _, h6⟩ := h4'; exact h6.fr
    refine ⟨?_, ?_, ?_⟩
    · cases hR : tyT env a (i + 1) with
      | error q => rw [hR] at h4'; exact ⟨h4'.1, (Mv.below hBa).thenF h4'.2⟩
      | ok τ =>
        rw [hR] at h4'
        obtain ⟨h5, bv', h6, h7⟩ := h4'
        exact ⟨h5, bv', h6, (Mv.below hBa).trans h7⟩
    · rw [hfr.cell hlt2 (by omega) (fun e => by have := own_lt hC.own _ e.symm; omega)]
      exact hc4
    · rw [hfr.cell hlt2 (by omega) (fun e => by have := own_lt hC.own _ e.symm; omega)]
      exact hc5
  clear hr ha hC h hcx hκ hN1
  generalize tyT env a (i + 1) = R at *
  generalize (flats [a]).length = m at *
  cases hgt : goodB x.t with
  | false =>
    have t1 := caskt_no x.t hgt
    have hfin := HFB.out 20 W1 (Below.refl _ _)
    show Calls _ _ _ _ (PtEnd B w cb (.slice (some ⟨nb, no, none⟩) l.length nc) bv l rb (i + 1 + m) env (.error (20, i)))
    clear HFB HKEEP HPt hgt
    go_enter Tryz.func107, Tryz.ntmps107
    go_upto_region 2 with fail
    rw [← hW1]
    clear hW1 p0 p1 p2 p3 p4 p5 p6 p7 c0
    go_wp2_with fail
    refine (t1 _ _).mono ?_
    rintro e w2 ⟨rfl, hw2⟩
    replace hw2 := hw2.symm
    subst hw2
    go_wp2_with fail
    exact ⟨rfl, hfin⟩
  | true =>
    have t1 := caskt_yes x.t hgt
    cases hgu : goodB x.u with
    | false =>
      have t2 := caskt_no x.u hgu
      have hfin := HFB.out 20 W1 (Below.refl _ _)
      show Calls _ _ _ _ (PtEnd B w cb (.slice (some ⟨nb, no, none⟩) l.length nc) bv l rb (i + 1 + m) env (.error (20, i)))
      clear HFB HKEEP HPt hgt hgu
      go_enter Tryz.func107, Tryz.ntmps107
      go_upto_region 2 with fail
      rw [← hW1]
      clear hW1 p0 p1 p2 p3 p4 p5 p6 p7 c0
      go_wp2_with fail
      refine (t1 _ _).mono ?_
      rintro e w2 ⟨rfl, hw2⟩
      replace hw2 := hw2.symm
      subst hw2
      go_wp2_with fail
      refine (t2 _ _).mono ?_
      rintro e w2 ⟨rfl, hw2⟩
      replace hw2 := hw2.symm
      subst hw2
      go_wp2_with fail
      exact ⟨rfl, hfin⟩
    | true =>
      have t2 := caskt_yes x.u hgu
      have hct : ∀ w, Calls Tryz.prog 21 #[.string x.t, .string x.u] w fun e w' => e = .returned (.bool (cns (tyS x.t) (tyS x.u))) ∧ Below w.heap.size w w' := fun w => by
        have := T3.consistent_yes (tyS x.t) (tyS x.u) (good_enc hgt).2 (good_enc hgu).2 w
        have e1 : T3.S (enc (tyS x.t)) = x.t := (str_good hgt).symm
        have e2 : T3.S (enc (tyS x.u)) = x.u := (str_good hgu).symm
        rw [e1, e2] at this
        exact this
      cases hcn : cns (tyS x.t) (tyS x.u) with
      | false =>
        rw [hcn] at hct
        have HF := HFB.out 23
        have HF2 : Aside _ := HF
        show Calls _ _ _ _ (PtEnd B w cb (.slice (some ⟨nb, no, none⟩) l.length nc) bv l rb (i + 1 + m) env (.error (23, i)))
        clear HFB HKEEP HPt hgt hgu hcn HF
        go_enter Tryz.func107, Tryz.ntmps107
        go_upto_region 2 with fail
        rw [← hW1]
        clear hW1 p0 p1 p2 p3 p4 p5 p6 p7 c0
        go_wp2_with fail
        refine (t1 _ _).mono ?_
        rintro e w2 ⟨rfl, hw2⟩
        replace hw2 := hw2.symm
        subst hw2
        go_wp2_with fail
        refine (t2 _ _).mono ?_
        rintro e w2 ⟨rfl, hw2⟩
        replace hw2 := hw2.symm
        subst hw2
        go_wp2_with fail
        refine (hct _).mono ?_
        rintro e w2 ⟨rfl, hB2⟩
        have hfin := HF2.out w2 hB2
        clear hct HF2
        go_wp2_with fail
        refine (hn _ _ _).mono ?_
        rintro e w3 ⟨rfl, hw3⟩
        replace hw3 := hw3.symm
        subst hw3
        go_wp2_with fail
        exact ⟨rfl, hfin⟩
      | true =>
        rw [hcn] at hct
        by_cases hlb : 1 ≤ x.n ∧ x.n ≤ 2147483647
        · have hl1 : (1 : Int) ≤ x.n := hlb.1
          have hl2 : x.n ≤ (2147483647 : Int) := hlb.2
          simp only [Bool.and_self, if_true, if_pos hlb]
          clear HFB
          cases R with
          | error q =>
            show Calls _ _ _ _ (PtEnd B w cb (.slice (some ⟨nb, no, none⟩) l.length nc) bv l rb (i + 1 + m) env (.error q))
            clear hgt hgu hcn hlb
            go_enter Tryz.func107, Tryz.ntmps107
            go_upto_region 2 with fail
            rw [← hW1]
            clear hW1 p0 p1 p2 p3 p4 p5 p6 p7 c0
            go_wp2_with fail
            refine (t1 _ _).mono ?_
            rintro e w2 ⟨rfl, hw2⟩
            replace hw2 := hw2.symm
            subst hw2
            go_wp2_with fail
            refine (t2 _ _).mono ?_
            rintro e w2 ⟨rfl, hw2⟩
            replace hw2 := hw2.symm
            subst hw2
            go_wp2_with fail
            refine (hct _).mono ?_
            rintro e w2 ⟨rfl, hB2⟩
            have hPt := fun W2 => HPt.out w2 W2 hB2
            obtain ⟨m2, m4, m5⟩ := HKEEP.out w2 hB2
            clear hct HPt HKEEP k2 k4 k5
            go_wp2_with (go_at_call 109; refine (hy _ _ _).mono ?_; rintro e w3 ⟨rfl, hw3⟩; replace hw3 := hw3.symm; subst hw3)
            go_region_with (go_at_call 55; refine (hPt _ (by first | exact .inl rfl | exact .inr rfl)).mono ?_; rintro e w4 ⟨h4, -⟩; have he := h4.1; subst he; refine (fun (_ : wpAny Tryz.prog .any #[] (fun _ _ _ => True) 0 #[] ⟨#[], []⟩ w4) => ⟨rfl, h4⟩) ?_)
            all_goals trivial
          | ok τ =>
            show Calls _ _ _ _ (PtEnd B w cb (.slice (some ⟨nb, no, none⟩) l.length nc) bv l rb (i + 1 + m) env (if τ = tyS x.t then .ok (tyS x.u) else .error (23, i)))
            have hux := str_good hgu
            have htx := str_good hgt
            by_cases hτ : τ = tyS x.t
            · rw [if_pos hτ]
              subst hτ
              have hS : ∀ (i : Int) (w : World), Calls Tryz.prog 150 #[.int .i64 i, .string (S (enc (tyS x.t))), .string x.t] w fun en w' => en = .returned (.tuple #[]) ∧ w' = w := fun i w => by
                have := casks_yes (tyS x.t) i w
                rw [← htx] at this ⊢
                exact this
              have HF : Aside (∀ e w4, PtEnd B w cb (.slice (some ⟨nb, no, none⟩) l.length nc) bv l rb (i + 1 + m) env (.ok (tyS x.t)) e w4 → PtEnd B w cb (.slice (some ⟨nb, no, none⟩) l.length nc) bv l rb (i + 1 + m) env (.ok (tyS x.u)) (.returned (.string x.u)) w4) := fun e w4 h4 => by
                obtain ⟨_, bv', h6, h7⟩ := h4
                exact ⟨by rw [← hux], bv', h6, h7⟩
              clear hgt hgu hcn hlb hux htx
              go_enter Tryz.func107, Tryz.ntmps107
              go_upto_region 2 with fail
              rw [← hW1]
              clear hW1 p0 p1 p2 p3 p4 p5 p6 p7 c0
              go_wp2_with fail
              refine (t1 _ _).mono ?_
              rintro e w2 ⟨rfl, hw2⟩
              replace hw2 := hw2.symm
              subst hw2
              go_wp2_with fail
              refine (t2 _ _).mono ?_
              rintro e w2 ⟨rfl, hw2⟩
              replace hw2 := hw2.symm
              subst hw2
              go_wp2_with fail
              refine (hct _).mono ?_
              rintro e w2 ⟨rfl, hB2⟩
              have hPt := fun W2 => HPt.out w2 W2 hB2
              obtain ⟨m2, m4, m5⟩ := HKEEP.out w2 hB2
              clear hct HPt HKEEP k2 k4 k5
              go_wp2_with (go_at_call 109; refine (hy _ _ _).mono ?_; rintro e w3 ⟨rfl, hw3⟩; replace hw3 := hw3.symm; subst hw3)
              go_region_with (first | (go_at_call 55; refine (hPt _ (by first | exact .inl rfl | exact .inr rfl)).mono ?_; rintro e w4 ⟨h4, hc4, hc5⟩; have he := h4.1; subst he; have hfin := HF.out _ w4 h4) | (go_at_call 150; refine (hS _ _).mono ?_; rintro e w5 ⟨rfl, hw5⟩; replace hw5 := hw5.symm; subst hw5))
              all_goals
                clear hPt HF hS h4
                go_wp2_with fail
                go_ret
                exact hfin
            · rw [if_neg hτ]
              have hS : ∀ (i : Int) (w : World), Calls Tryz.prog 150 #[.int .i64 i, .string (S (enc τ)), .string x.t] w fun en w' => en = .panicked (thC 23 i) ∧ w' = w := fun i w => by
                have := casks_no τ (tyS x.t) hτ i w
                rw [← htx] at this
                exact this
              have HF : Aside (∀ e w4, PtEnd B w cb (.slice (some ⟨nb, no, none⟩) l.length nc) bv l rb (i + 1 + m) env (.ok τ) e w4 → PtEnd B w cb (.slice (some ⟨nb, no, none⟩) l.length nc) bv l rb (i + 1 + m) env (.error (23, i)) (.panicked (thC 23 i)) w4) := fun e w4 h4 => by
                obtain ⟨_, bv', h6, h7⟩ := h4
                exact ⟨rfl, h7.fr⟩
              clear hgt hgu hcn hlb hux htx hτ
              go_enter Tryz.func107, Tryz.ntmps107
              go_upto_region 2 with fail
              rw [← hW1]
              clear hW1 p0 p1 p2 p3 p4 p5 p6 p7 c0
              go_wp2_with fail
              refine (t1 _ _).mono ?_
              rintro e w2 ⟨rfl, hw2⟩
              replace hw2 := hw2.symm
              subst hw2
              go_wp2_with fail
              refine (t2 _ _).mono ?_
              rintro e w2 ⟨rfl, hw2⟩
              replace hw2 := hw2.symm
              subst hw2
              go_wp2_with fail
              refine (hct _).mono ?_
              rintro e w2 ⟨rfl, hB2⟩
              have hPt := fun W2 => HPt.out w2 W2 hB2
              obtain ⟨m2, m4, m5⟩ := HKEEP.out w2 hB2
              clear hct HPt HKEEP k2 k4 k5
              go_wp2_with (go_at_call 109; refine (hy _ _ _).mono ?_; rintro e w3 ⟨rfl, hw3⟩; replace hw3 := hw3.symm; subst hw3)
              go_region_with (first | (go_at_call 55; refine (hPt _ (by first | exact .inl rfl | exact .inr rfl)).mono ?_; rintro e w4 ⟨h4, hc4, hc5⟩; have he := h4.1; subst he; have hfin := HF.out _ w4 h4) | (go_at_call 150; refine (hS _ _).mono ?_; rintro e w5 ⟨rfl, hw5⟩; replace hw5 := hw5.symm; subst hw5; refine (fun (_ : wpAny Tryz.prog .any #[] (fun _ _ _ => True) 0 #[] ⟨#[], []⟩ w4) => ⟨rfl, hfin⟩) ?_))
              all_goals trivial
        · simp only [Bool.and_self, if_true, if_neg hlb]
          have HF := HFB.out 13
          have HF2 : Aside _ := HF
          show Calls _ _ _ _ (PtEnd B w cb (.slice (some ⟨nb, no, none⟩) l.length nc) bv l rb (i + 1 + m) env (.error (13, i)))
          clear HFB HPt hgt hgu hcn HF
          by_cases hl1 : (1 : Int) ≤ x.n
          · have hl2 : decide (x.n ≤ (2147483647 : Int)) = false := by simp; omega
            clear hlb
            go_enter Tryz.func107, Tryz.ntmps107
            go_upto_region 2 with fail
            rw [← hW1]
            clear hW1 p0 p1 p2 p3 p4 p5 p6 p7 c0
            go_wp2_with fail
            refine (t1 _ _).mono ?_
            rintro e w2 ⟨rfl, hw2⟩
            replace hw2 := hw2.symm
            subst hw2
            go_wp2_with fail
            refine (t2 _ _).mono ?_
            rintro e w2 ⟨rfl, hw2⟩
            replace hw2 := hw2.symm
            subst hw2
            go_wp2_with fail
            refine (hct _).mono ?_
            rintro e w2 ⟨rfl, hB2⟩
            have hfin := HF2.out w2 hB2
            obtain ⟨m2, m4, m5⟩ := HKEEP.out w2 hB2
            clear hct HF2 HKEEP k2 k4 k5
            go_wp2_with fail
            refine (hy _ _ _).mono ?_
            rintro e w3 ⟨rfl, hw3⟩
            replace hw3 := hw3.symm
            subst hw3
            go_wp2_with fail
            refine (hn _ _ _).mono ?_
            rintro e w3 ⟨rfl, hw3⟩
            replace hw3 := hw3.symm
            subst hw3
            go_wp2_with fail
            exact ⟨rfl, hfin⟩
          · clear hlb
            go_enter Tryz.func107, Tryz.ntmps107
            go_upto_region 2 with fail
            rw [← hW1]
            clear hW1 p0 p1 p2 p3 p4 p5 p6 p7 c0
            go_wp2_with fail
            refine (t1 _ _).mono ?_
            rintro e w2 ⟨rfl, hw2⟩
            replace hw2 := hw2.symm
            subst hw2
            go_wp2_with fail
            refine (t2 _ _).mono ?_
            rintro e w2 ⟨rfl, hw2⟩
            replace hw2 := hw2.symm
            subst hw2
            go_wp2_with fail
            refine (hct _).mono ?_
            rintro e w2 ⟨rfl, hB2⟩
            have hfin := HF2.out w2 hB2
            obtain ⟨m2, m4, m5⟩ := HKEEP.out w2 hB2
            clear hct HF2 HKEEP k2 k4 k5
            go_wp2_with fail
            refine (hy _ _ _).mono ?_
            rintro e w3 ⟨rfl, hw3⟩
            replace hw3 := hw3.symm
            subst hw3
            go_wp2_with fail
            refine (hn _ _ _).mono ?_
            rintro e w3 ⟨rfl, hw3⟩
            replace hw3 := hw3.symm
            subst hw3
            go_wp2_with fail
            exact ⟨rfl, hfin⟩
end Go.Proofs.YthdlfeejeboboaaGreatDoor
namespace Go.Proofs.YthdlfeejeboboaaGreatDoor
open Go.RowKit Co
open T3.Tp (Ty enc cns)
open Tr (T flat flats)
set_option maxRecDepth 100000
set_option linter.unusedSimpArgs false
set_option linter.unusedVariables false

set_option maxHeartbeats 4000000 in
theorem kind_recursive {B cb : Nat} {nv : Value} {l : List Tr.Nd} {rb N : Nat} {x : Tr.Nd} {ks : List T} {i : Nat} {rest : List Tr.Nd} (h : Kn B cb nv l rb N x ks i rest) (hκ : x.kind = 6) : KindC B cb nv l rb 88 x ks i := by
  intro env bv w hE hen hC
  obtain ⟨a, rfl⟩ := h.one (by rw [hκ]; decide)
  obtain ⟨nb, no, nc, rfl, hlc, hnb, hnc, hcx⟩ := hC.at h.hx
  have hil : i < l.length := (List.getElem?_eq_some_iff.1 h.hx).1
  have hil' : (i : Int) < (l.length : Int) := by omega
  have hi0 : (0 : Int) ≤ (i : Int) := by omega
  have c0 := hC.nod
  obtain ⟨p0, p1, p2, p3, p4, p5, p6, p7⟩ := agg_cells (o := no + i * 8) hcx
  have hr : tyT env (.nd x [a]) i = if goodB x.t = true ∧ goodB x.u = true ∧ sz (.tf (tyS x.t) (tyS x.u)) ≤ 64 then (match tyT (tyS x.t :: .tf (tyS x.t) (tyS x.u) :: env) a (i + 1) with | .error e => .error e | .ok τ => if τ = tyS x.u then .ok (.tf (tyS x.t) (tyS x.u)) else .error (23, i)) else .error (arE x, i) := by
    rw [tyT]
    have hi : inn x env = (tyS x.t :: .tf (tyS x.t) (tyS x.u) :: env) := by unfold inn; simp [hκ]
    have ha : ahd env.length x i = if goodB x.t = true ∧ goodB x.u = true ∧ sz (.tf (tyS x.t) (tyS x.u)) ≤ 64 then Option.none else some (arE x, i) := by
      unfold ahd arE
      simp only [hκ]
      cases goodB x.t <;> cases goodB x.u <;> simp
    rw [ha]
    by_cases hg : goodB x.t = true ∧ goodB x.u = true ∧ sz (.tf (tyS x.t) (tyS x.u)) ≤ 64
    · rw [if_pos hg, if_pos hg]
      show (if x.kind = 8 then _ else match tyL (inn x env) [a] (i + 1) with | Except.error e => Except.error e | Except.ok ts => rul env x i ts) = _
      rw [if_neg (by omega), hi, tyL_one]
      cases tyT (tyS x.t :: .tf (tyS x.t) (tyS x.u) :: env) a (i + 1) with
      | error e => rfl
      | ok τ =>
        show rul env x i [τ] = _
        unfold rul
        simp [hκ]
    · rw [if_neg hg, if_neg hg]
  rw [hr]
  obtain ⟨W1, hW1⟩ : ∃ W1, W1 = w.alloc (.cells #[.int .i8 x.kind, .int .i64 x.kids, .int .i64 x.n, .string x.s, .string x.t, .string x.u, .int .i64 x.ln, .int .i64 x.co] 72) := ⟨_, rfl⟩
  have hB1 : Below w.heap.size w W1 := by rw [hW1]; exact (Below.refl _ _).alloc (Nat.le_refl _) _
  have hz1 : W1.heap.size = w.heap.size + 1 := by rw [hW1]; simp
  have hN1 : W1.heap[w.heap.size]? = some (.cells #[.int .i8 x.kind, .int .i64 x.kids, .int .i64 x.n, .string x.s, .string x.t, .string x.u, .int .i64 x.ln, .int .i64 x.co] 72) := by rw [hW1]; exact heap_alloc_new _ _
  have k0 := (block_cells hN1).1 0
  have k1 := (block_cells hN1).1 1
  have k2 := (block_cells hN1).1 2
  have k3 := (block_cells hN1).1 3
  have k4 := (block_cells hN1).1 4
  have k5 := (block_cells hN1).1 5
  have k6 := (block_cells hN1).1 6
  have k7 := (block_cells hN1).1 7
  by_cases hg : goodB x.t = true ∧ goodB x.u = true ∧ sz (.tf (tyS x.t) (tyS x.u)) ≤ 64
  · rw [if_pos hg]
    have har := carrow_yes x hg.1 hg.2.1 hg.2.2
    have hux := str_good hg.2.1
    have HPt : Aside (∀ (w2 W2 : World) (n : Nat), Below W1.heap.size W1 w2 → (W2 = w2.alloc (.cells #[.string (S (enc (.tf (tyS x.t) (tyS x.u)))), .string x.t] 9) ∨ W2 = (w2.alloc (.cells #[.string (S (enc (.tf (tyS x.t) (tyS x.u)))), .string x.t] 9)).drew) → n = w2.heap.size → Calls Tryz.prog 55 #[.pointer (some ⟨cb, 0, none⟩), .slice (some ⟨n, 0, none⟩) 2 2] W2 (fun e w4 => PtEnd B w cb (.slice (some ⟨nb, no, none⟩) l.length nc) bv l rb (i + 1 + (flats [a]).length) env (tyT (tyS x.t :: .tf (tyS x.t) (tyS x.u) :: env) a (i + 1)) e w4 ∧ w4.cell? ⟨w.heap.size, 5, none⟩ = some (.string x.u))) := fun w2 W2 n hB2 hW hn => by
      have hB3 : Below w2.heap.size w2 W2 := by
        rcases hW with hW | hW
        · rw [hW]; exact (Below.refl _ _).alloc (Nat.le_refl _) _
        · rw [hW]; exact below_drew ((Below.refl _ _).alloc (Nat.le_refl _) _)
      have hBd : Bd W2 (.slice (some ⟨n, 0, none⟩) 2 2) [.tf (tyS x.t) (tyS x.u), tyS x.t] := by
        rcases hW with hW | hW
        · exact Bd.two rfl (str_good hg.1) hW hn
        · have := Bd.two (W := w2) (s1 := S (enc (.tf (tyS x.t) (tyS x.u)))) rfl (str_good hg.1) rfl hn
          rw [hW]
          exact this
      have hBa : Below w.heap.size w W2 := hB1.trans ((hB2.trans (hB3.mono hB2.size)).mono (by omega))
      have hc5 : W2.cell? ⟨w.heap.size, 5, none⟩ = some (.string x.u) := by
        have h1 : Below W1.heap.size W1 W2 := hB2.trans (hB3.mono hB2.size)
        rw [h1.cell (p := ⟨w.heap.size, 5, none⟩) (by show w.heap.size < _; omega)]
        exact k5
      have hlt2 : w.heap.size < W2.heap.size := World.block_lt_of_cell? _ _ hc5
      have hlt := hC.lt
      refine (h.part [.tf (tyS x.t) (tyS x.u), tyS x.t] _ (fun t ht => by
        simp at ht
        rcases ht with rfl | rfl | ht
        · exact (good_enc hg.1).2
        · exact hg.2.2
        · exact hE t ht) hen (hC.below hBa) hBd).mono ?_
      intro e w4 h4
      have h4' : PtEnd B W2 cb (.slice (some ⟨nb, no, none⟩) l.length nc) bv l rb (i + 1 + (flats [a]).length) env (tyT (tyS x.t :: .tf (tyS x.t) (tyS x.u) :: env) a (i + 1)) e w4 := h4
      have hfr : Fr cb bv W2 w4 := by
        cases hR : tyT (tyS x.t :: .tf (tyS x.t) (tyS x.u) :: env) a (i + 1) with
        | error q => rw [hR] at h4'; exact h4'.2
        | ok τ => rw [hR] at h4'; obtain ⟨_, bv', _, h6⟩ := h4'; exact h6.fr
      refine ⟨?_, ?_⟩
      · cases hR : tyT (tyS x.t :: .tf (tyS x.t) (tyS x.u) :: env) a (i + 1) with
        | error q => rw [hR] at h4'; exact ⟨h4'.1, (Mv.below hBa).thenF h4'.2⟩
        | ok τ =>
          rw [hR] at h4'
          obtain ⟨h5, bv', h6, h7⟩ := h4'
          exact ⟨h5, bv', h6, (Mv.below hBa).trans h7⟩
      · rw [hfr.cell hlt2 (by omega) (fun e => by have := own_lt hC.own _ e.symm; omega)]
        exact hc5
    generalize tyT (tyS x.t :: .tf (tyS x.t) (tyS x.u) :: env) a (i + 1) = R at *
    generalize (flats [a]).length = m at *
    cases R with
    | error q =>
      clear hr hC h hcx hκ hN1 hux
      go_enter Tryz.func88, Tryz.ntmps88
      go_upto_region 2 with fail
      rw [← hW1]
      clear hW1 p0 p1 p2 p3 p4 p5 p6 p7 c0
      go_wp2_with fail
      refine (har _ _).mono ?_
      rintro e w2 ⟨rfl, hB2⟩
      have hPt := fun W2 n => HPt.out w2 W2 n hB2
      have k4' := (hB2.cell (p := ⟨w.heap.size, 4, none⟩) (by show w.heap.size < _; omega)).trans k4
      have k5' := (hB2.cell (p := ⟨w.heap.size, 5, none⟩) (by show w.heap.size < _; omega)).trans k5
      have hlt2 : w.heap.size < w2.heap.size := by have := hB2.size; omega
      clear har HPt k0 k1 k2 k3 k4 k5 k6 k7 hg
      go_wp2_with fail
      go_region_with (go_at_call 55; refine (hPt _ _ (by first | exact .inl rfl | exact .inr rfl) rfl).mono ?_; rintro e w4 ⟨h4, -⟩; have he := h4.1; subst he; refine (fun (_ : wpAny Tryz.prog .any #[] (fun _ _ _ => True) 0 #[] ⟨#[], []⟩ w4) => ⟨rfl, h4⟩) ?_)
      all_goals trivial
    | ok τ =>
      show Calls _ _ _ _ (PtEnd B w cb (.slice (some ⟨nb, no, none⟩) l.length nc) bv l rb (i + 1 + m) env (if τ = tyS x.u then .ok (.tf (tyS x.t) (tyS x.u)) else .error (23, i)))
      by_cases hτ : τ = tyS x.u
      · rw [if_pos hτ]
        subst hτ
        have hS : ∀ (i : Int) (w : World), Calls Tryz.prog 150 #[.int .i64 i, .string (S (enc (tyS x.u))), .string x.u] w fun en w' => en = .returned (.tuple #[]) ∧ w' = w := fun i w => by
          have := casks_yes (tyS x.u) i w
          rw [← hux] at this ⊢
          exact this
        have HF : Aside (∀ e w4 w5, PtEnd B w cb (.slice (some ⟨nb, no, none⟩) l.length nc) bv l rb (i + 1 + m) env (.ok (tyS x.u)) e w4 → Below w4.heap.size w4 w5 → PtEnd B w cb (.slice (some ⟨nb, no, none⟩) l.length nc) bv l rb (i + 1 + m) env (.ok (.tf (tyS x.t) (tyS x.u))) (.returned (.string (S (enc (.tf (tyS x.t) (tyS x.u)))))) w5) := fun e w4 w5 h4 hB => by
          obtain ⟨_, bv', h6, h7⟩ := h4
          exact ⟨rfl, bv', h6.below hB, h7.trans (Mv.below hB)⟩
        clear hr hC h hcx hκ hN1 hux
        go_enter Tryz.func88, Tryz.ntmps88
        go_upto_region 2 with fail
        rw [← hW1]
        clear hW1 p0 p1 p2 p3 p4 p5 p6 p7 c0
        go_wp2_with fail
        refine (har _ _).mono ?_
        rintro e w2 ⟨rfl, hB2⟩
        have hPt := fun W2 n => HPt.out w2 W2 n hB2
        have k4' := (hB2.cell (p := ⟨w.heap.size, 4, none⟩) (by show w.heap.size < _; omega)).trans k4
        have k5' := (hB2.cell (p := ⟨w.heap.size, 5, none⟩) (by show w.heap.size < _; omega)).trans k5
        have hlt2 : w.heap.size < w2.heap.size := by have := hB2.size; omega
        clear har HPt k0 k1 k2 k3 k4 k5 k6 k7 hg
        go_wp2_with fail
        go_region_with (first | (go_at_call 55; refine (hPt _ _ (by first | exact .inl rfl | exact .inr rfl) rfl).mono ?_; rintro e w4 ⟨h4, hc5⟩; have he := h4.1; subst he; have hfin := HF.out _ w4 w4 h4 (Below.refl _ _)) | (go_at_call 150; refine (hS _ _).mono ?_; rintro e w5 ⟨rfl, hw5⟩; replace hw5 := hw5.symm; subst hw5))
        all_goals
          clear hPt HF hS h4
          go_wp2_with fail
          go_ret
          exact hfin
      · rw [if_neg hτ]
        have hS : ∀ (i : Int) (w : World), Calls Tryz.prog 150 #[.int .i64 i, .string (S (enc τ)), .string x.u] w fun en w' => en = .panicked (thC 23 i) ∧ w' = w := fun i w => by
          have := casks_no τ (tyS x.u) hτ i w
          rw [← hux] at this
          exact this
        have HF : Aside (∀ e w4, PtEnd B w cb (.slice (some ⟨nb, no, none⟩) l.length nc) bv l rb (i + 1 + m) env (.ok τ) e w4 → PtEnd B w cb (.slice (some ⟨nb, no, none⟩) l.length nc) bv l rb (i + 1 + m) env (.error (23, i)) (.panicked (thC 23 i)) w4) := fun e w4 h4 => by
          obtain ⟨_, bv', h6, h7⟩ := h4
          exact ⟨rfl, h7.fr⟩
        clear hr hC h hcx hκ hN1 hux hτ
        go_enter Tryz.func88, Tryz.ntmps88
        go_upto_region 2 with fail
        rw [← hW1]
        clear hW1 p0 p1 p2 p3 p4 p5 p6 p7 c0
        go_wp2_with fail
        refine (har _ _).mono ?_
        rintro e w2 ⟨rfl, hB2⟩
        have hPt := fun W2 n => HPt.out w2 W2 n hB2
        have k4' := (hB2.cell (p := ⟨w.heap.size, 4, none⟩) (by show w.heap.size < _; omega)).trans k4
        have k5' := (hB2.cell (p := ⟨w.heap.size, 5, none⟩) (by show w.heap.size < _; omega)).trans k5
        have hlt2 : w.heap.size < w2.heap.size := by have := hB2.size; omega
        clear har HPt k0 k1 k2 k3 k4 k5 k6 k7 hg
        go_wp2_with fail
        go_region_with (first | (go_at_call 55; refine (hPt _ _ (by first | exact .inl rfl | exact .inr rfl) rfl).mono ?_; rintro e w4 ⟨h4, hc5⟩; have he := h4.1; subst he; have hfin := HF.out _ w4 h4) | (go_at_call 150; refine (hS _ _).mono ?_; rintro e w5 ⟨rfl, hw5⟩; replace hw5 := hw5.symm; subst hw5; refine (fun (_ : wpAny Tryz.prog .any #[] (fun _ _ _ => True) 0 #[] ⟨#[], []⟩ w4) => ⟨rfl, hfin⟩) ?_))
        all_goals trivial
  · rw [if_neg hg]
    have har := carrow_no x hg
    have HF : Aside (∀ w2, Below W1.heap.size W1 w2 → PtEnd B w cb (.slice (some ⟨nb, no, none⟩) l.length nc) bv l rb (i + 1 + (flats [a]).length) env (.error (arE x, i)) (.panicked (thC (arE x) i)) w2) := fun w2 hB => ⟨rfl, Fr.below (hB1.trans (hB.mono (by omega)))⟩
    clear hr hC h hcx hκ hN1 hg
    generalize (flats [a]).length = m at *
    go_enter Tryz.func88, Tryz.ntmps88
    go_upto_region 2 with fail
    rw [← hW1]
    clear hW1 p0 p1 p2 p3 p4 p5 p6 p7 c0
    go_wp2_with fail
    refine (har _ _).mono ?_
    rintro e w2 ⟨rfl, hB2⟩
    have hfin := HF.out w2 hB2
    clear har HF
    go_wp2_with fail
    exact ⟨rfl, hfin⟩
end Go.Proofs.YthdlfeejeboboaaGreatDoor
namespace Go.Proofs.YthdlfeejeboboaaGreatDoor
open Go.RowKit Co
open T3.Tp (Ty enc cns)
open Tr (T flat flats)
set_option maxRecDepth 100000
set_option linter.unusedSimpArgs false
set_option linter.unusedVariables false

set_option maxHeartbeats 4000000 in
theorem kind_call {B cb : Nat} {nv : Value} {l : List Tr.Nd} {rb N : Nat} {x : Tr.Nd} {ks : List T} {i : Nat} {rest : List Tr.Nd} (h : Kn B cb nv l rb N x ks i rest) (hκ : x.kind = 7) : KindC B cb nv l rb 89 x ks i := by
  intro env bv w hE hen hC
  have hks := h.kidN (n := 2) (by rw [hκ]; decide) (by omega)
  have hPs := parts_any B cb nv l rb N h.hl h.hP x ks i rest env bv w h.hx h.hk h.hw h.hN h.hd hE hen hC
  have hlen := fun ts h => tyL_len ks env (i + 1) ts hE h
  have hlt := fun ts h => tyL_lenth (env := env) ks (i + 1) ts h
  have hr : tyT env (.nd x ks) i = match tyL env ks (i + 1) with | .error q => .error q | .ok ts => rul env x i ts := tyT_plain (by omega)
  rw [hr]
  generalize tyL env ks (i + 1) = R at *
  clear hr hC
  generalize (flats ks).length = m at *
  cases R with
  | error q =>
    have HF : Aside (∀ e w3, PsEnd B w cb nv bv l rb (i + 1 + m) env (.error q) e w3 → e = .panicked (thC q.1 q.2) ∧ PtEnd B w cb nv bv l rb (i + 1 + m) env (.error q) e w3) := fun e w3 h => ⟨h.1, h⟩
    clear h hlen hlt hks
    go_enter Tryz.func89, Tryz.ntmps89
    go_wp2_with fail
    refine hPs.mono ?_
    intro e w3 h3
    obtain ⟨rfl, h4⟩ := HF.out e w3 h3
    clear hPs HF h3
    go_wp2_with fail
    exact ⟨rfl, h4⟩
  | ok ts =>
    have h64 := hlen ts rfl
    have hl2 := hlt ts rfl
    obtain ⟨t, a, rfl⟩ : ∃ t a, ts = [t, a] := by
      match ts, (show ts.length = 2 by omega) with
      | [t, a], _ => exact ⟨t, a, rfl⟩
    show Calls _ _ _ _ (PtEnd B w cb nv bv l rb (i + 1 + m) env (rul env x i [t, a]))
    clear hlen hlt hl2 hks
    have hru : rul env x i [t, a] = match t with | .tf A C => if a = A then .ok C else .error (23, i) | _ => .error (23, i) := by
      unfold rul
      simp only [hκ]
      cases t <;> simp
    have h64t := h64 t (by simp)
    have HFN : Aside (∀ w3 w4 bv', Mv cb w bv w3 bv' → Below w3.heap.size w3 w4 → PtEnd B w cb nv bv l rb (i + 1 + m) env (.error (23, i)) (.panicked (thC 23 i)) w4) := fun w3 w4 bv' h2 h3 => ⟨rfl, h2.thenF (Fr.below h3)⟩
    have HFN : Aside (∀ {w3 : World} (w4 : World) (bv' : Value), Mv cb w bv w3 bv' → Below w3.heap.size w3 w4 → PtEnd B w cb nv bv l rb (i + 1 + m) env (.error (23, i)) (.panicked (thC 23 i)) w4) := fun {w3} w4 bv' h2 h3 => HFN.out w3 w4 bv' h2 h3
    by_cases hh : ∃ A C : Ty, t = .tf A C
    · obtain ⟨A, C, rfl⟩ := hh
      have hap := capart_yes (.tf A C) h64t 62 rfl
      rw [hru]
      show Calls _ _ _ _ (PtEnd B w cb nv bv l rb (i + 1 + m) env (if a = A then .ok C else .error (23, i)))
      clear hru h h64
      by_cases he : a = A
      · subst he
        rw [if_pos rfl]
        have hyes := casks_yes a
        have HF : Aside (∀ w3 w4 bv', Cs B w3 cb nv bv' l rb (i + 1 + m) env → Mv cb w bv w3 bv' → Below w3.heap.size w3 w4 → PtEnd B w cb nv bv l rb (i + 1 + m) env (.ok C) (.returned (.string (S (enc C)))) w4) := fun w3 w4 bv' h1 h2 h3 => ⟨rfl, bv', h1.below h3, h2.trans (Mv.below h3)⟩
        clear HFN h64t
        go_enter Tryz.func89, Tryz.ntmps89
        go_wp2_with fail
        refine hPs.mono ?_
        rintro e w3 ⟨v, bv', rfl, hT, hC3, hM3⟩
        clear hPs
        obtain ⟨va, vc, rfl⟩ := texts_len hT
        obtain ⟨kb, ko, rfl, hkc, hkb, k0⟩ := texts_at (k := 0) hT rfl
        obtain ⟨kb', ko', hke, -, -, k1⟩ := texts_at (k := 1) hT rfl
        obtain ⟨rfl, rfl⟩ : kb = kb' ∧ ko = ko' := by simpa using hke
        rw [Nat.add_zero] at k0
        simp only [List.length_cons, List.length_nil, List.length_map] at hkc
        go_wp2_with fail
        refine (hap _ _).mono ?_
        rintro e w4 ⟨v2, rfl, hT2, hB4⟩
        have hT2' : T3.IsTexts w4 v2 ([a, C].map enc) := hT2
        obtain ⟨va2, vc2, rfl⟩ := texts_len hT2'
        obtain ⟨fb, fo, rfl, hfc, hfb, f0⟩ := texts_at (k := 0) hT2' rfl
        obtain ⟨fb', fo', hfe, -, -, f1⟩ := texts_at (k := 1) hT2' rfl
        obtain ⟨rfl, rfl⟩ : fb = fb' ∧ fo = fo' := by simpa using hfe
        rw [Nat.add_zero] at f0
        simp only [List.length_cons, List.length_nil, List.length_map] at hfc
        have k1' : w4.cell? ⟨kb, ko + 1, none⟩ = some (.string (S (enc a))) := (hB4.cell (p := ⟨kb, ko + 1, none⟩) hkb).trans k1
        have hfin : ∀ W, Below w4.heap.size w4 W → _ := fun W hW => HF.out w3 W bv' hC3 hM3 (hB4.trans (hW.mono hB4.size))
        clear hap HF hC3 hM3 hT hT2 hT2' hke hfe k0 k1
        generalize S (T3.Tp.enc a) = sa at *
        generalize S (T3.Tp.enc C) = sc at *
        go_wp2_with fail
        go_region_with (go_at_call 150; refine (hyes _ _).mono ?_; rintro e w5 ⟨rfl, hw5⟩; replace hw5 := hw5.symm; subst hw5)
        all_goals
          go_wp2_with fail
          go_ret
          exact hfin _ (by first | exact below_drew (Below.refl _ _) | exact Below.refl _ _)
      · rw [if_neg he]
        have hno := casks_no a A he
        clear h64t
        go_enter Tryz.func89, Tryz.ntmps89
        go_wp2_with fail
        refine hPs.mono ?_
        rintro e w3 ⟨v, bv', rfl, hT, hC3, hM3⟩
        clear hPs
        obtain ⟨va, vc, rfl⟩ := texts_len hT
        obtain ⟨kb, ko, rfl, hkc, hkb, k0⟩ := texts_at (k := 0) hT rfl
        obtain ⟨kb', ko', hke, -, -, k1⟩ := texts_at (k := 1) hT rfl
        obtain ⟨rfl, rfl⟩ : kb = kb' ∧ ko = ko' := by simpa using hke
        rw [Nat.add_zero] at k0
        simp only [List.length_cons, List.length_nil, List.length_map] at hkc
        go_wp2_with fail
        refine (hap _ _).mono ?_
        rintro e w4 ⟨v2, rfl, hT2, hB4⟩
        have hT2' : T3.IsTexts w4 v2 ([A, C].map enc) := hT2
        obtain ⟨va2, vc2, rfl⟩ := texts_len hT2'
        obtain ⟨fb, fo, rfl, hfc, hfb, f0⟩ := texts_at (k := 0) hT2' rfl
        obtain ⟨fb', fo', hfe, -, -, f1⟩ := texts_at (k := 1) hT2' rfl
        obtain ⟨rfl, rfl⟩ : fb = fb' ∧ fo = fo' := by simpa using hfe
        rw [Nat.add_zero] at f0
        simp only [List.length_cons, List.length_nil, List.length_map] at hfc
        have k1' : w4.cell? ⟨kb, ko + 1, none⟩ = some (.string (S (enc a))) := (hB4.cell (p := ⟨kb, ko + 1, none⟩) hkb).trans k1
        clear hap hT hT2 hT2' hke hfe k0 k1 f1
        go_wp2_with fail
        go_region_with (go_at_call 150; refine (hno _ _).mono ?_; rintro e w5 ⟨rfl, hw5⟩; replace hw5 := hw5.symm; subst hw5; refine (fun (_ : wpAny Tryz.prog .any #[] (fun _ _ _ => True) 0 #[] ⟨#[], []⟩ w4) => ⟨rfl, HFN.out _ bv' hM3 (by first | exact below_drew hB4 | exact hB4)⟩) ?_)
        all_goals trivial
    · have hne : ((T3.Tp.hd t).toNat : Int) ≠ 62 := by
        intro e
        cases t <;> simp [T3.Tp.hd] at e
        exact hh ⟨_, _, rfl⟩
      have hap := capart_no t h64t 62 hne
      have hru2 : rul env x i [t, a] = .error (23, i) := by
        rw [hru]
        cases t <;> first | rfl | (exfalso; exact hh ⟨_, _, rfl⟩)
      rw [hru2]
      clear h hru h64 h64t hh hne hru2
      go_enter Tryz.func89, Tryz.ntmps89
      go_wp2_with fail
      refine hPs.mono ?_
      rintro e w3 ⟨v, bv', rfl, hT, hC3, hM3⟩
      clear hPs
      obtain ⟨va, vc, rfl⟩ := texts_len hT
      obtain ⟨kb, ko, rfl, hkc, hkb, k0⟩ := texts_at (k := 0) hT rfl
      obtain ⟨kb', ko', hke, -, -, k1⟩ := texts_at (k := 1) hT rfl
      obtain ⟨rfl, rfl⟩ : kb = kb' ∧ ko = ko' := by simpa using hke
      rw [Nat.add_zero] at k0
      simp only [List.length_cons, List.length_nil, List.length_map] at hkc
      clear hT hke
      have hfin := HFN.out w3 bv' hM3 (Below.refl _ _)
      clear hC3 hM3 HFN
      go_wp2_with fail
      refine (hap _ _).mono ?_
      rintro e w4 ⟨rfl, hw4⟩
      replace hw4 := hw4.symm
      subst hw4
      clear hap
      go_wp2_with fail
      exact ⟨rfl, hfin⟩

end Go.Proofs.YthdlfeejeboboaaGreatDoor
namespace Go.Proofs.YthdlfeejeboboaaGreatDoor
open Go.RowKit Co
open T3.Tp (Ty enc cns)
open Tr (T flat flats)
set_option maxRecDepth 100000
set_option linter.unusedSimpArgs false
set_option linter.unusedVariables false

set_option maxHeartbeats 4000000 in
theorem kind_cons {B cb : Nat} {nv : Value} {l : List Tr.Nd} {rb N : Nat} {x : Tr.Nd} {ks : List T} {i : Nat} {rest : List Tr.Nd} (h : Kn B cb nv l rb N x ks i rest) (hκ : x.kind = 25) : KindC B cb nv l rb 103 x ks i := by
  intro env bv w hE hen hC
  have hks := h.kidN (n := 2) (by rw [hκ]; decide) (by omega)
  have hPs := parts_any B cb nv l rb N h.hl h.hP x ks i rest env bv w h.hx h.hk h.hw h.hN h.hd hE hen hC
  have hlen := fun ts h => tyL_len ks env (i + 1) ts hE h
  have hlt := fun ts h => tyL_lenth (env := env) ks (i + 1) ts h
  have hr : tyT env (.nd x ks) i = match tyL env ks (i + 1) with | .error q => .error q | .ok ts => rul env x i ts := tyT_plain (by omega)
  rw [hr]
  generalize tyL env ks (i + 1) = R at *
  clear hr hC
  generalize (flats ks).length = m at *
  cases R with
  | error q =>
    have HF : Aside (∀ e w3, PsEnd B w cb nv bv l rb (i + 1 + m) env (.error q) e w3 → e = .panicked (thC q.1 q.2) ∧ PtEnd B w cb nv bv l rb (i + 1 + m) env (.error q) e w3) := fun e w3 h => ⟨h.1, h⟩
    clear h hlen hlt hks
    go_enter Tryz.func103, Tryz.ntmps103
    go_wp2_with fail
    refine hPs.mono ?_
    intro e w3 h3
    obtain ⟨rfl, h4⟩ := HF.out e w3 h3
    clear hPs HF h3
    go_wp2_with fail
    exact ⟨rfl, h4⟩
  | ok ts =>
    have h64 := hlen ts rfl
    have hl2 := hlt ts rfl
    obtain ⟨a, t, rfl⟩ : ∃ a t, ts = [a, t] := by
      match ts, (show ts.length = 2 by omega) with
      | [a, t], _ => exact ⟨a, t, rfl⟩
    show Calls _ _ _ _ (PtEnd B w cb nv bv l rb (i + 1 + m) env (rul env x i [a, t]))
    clear hlen hlt hl2 hks
    have hru : rul env x i [a, t] = match t with | .tl A => if a = A then .ok (.tl A) else .error (23, i) | _ => .error (23, i) := by
      unfold rul
      simp only [hκ]
      cases t <;> simp
    have h64t := h64 t (by simp)
    have HFN : Aside (∀ w3 w4 bv', Mv cb w bv w3 bv' → Below w3.heap.size w3 w4 → PtEnd B w cb nv bv l rb (i + 1 + m) env (.error (23, i)) (.panicked (thC 23 i)) w4) := fun w3 w4 bv' h2 h3 => ⟨rfl, h2.thenF (Fr.below h3)⟩
    have HFN : Aside (∀ {w3 : World} (w4 : World) (bv' : Value), Mv cb w bv w3 bv' → Below w3.heap.size w3 w4 → PtEnd B w cb nv bv l rb (i + 1 + m) env (.error (23, i)) (.panicked (thC 23 i)) w4) := fun {w3} w4 bv' h2 h3 => HFN.out w3 w4 bv' h2 h3
    by_cases hh : ∃ A : Ty, t = .tl A
    · obtain ⟨A, rfl⟩ := hh
      have hap := capart_yes (.tl A) h64t 108 rfl
      rw [hru]
      show Calls _ _ _ _ (PtEnd B w cb nv bv l rb (i + 1 + m) env (if a = A then .ok (.tl A) else .error (23, i)))
      clear hru h h64
      by_cases he : a = A
      · subst he
        rw [if_pos rfl]
        have hyes := casks_yes a
        have HF : Aside (∀ w3 w4 bv', Cs B w3 cb nv bv' l rb (i + 1 + m) env → Mv cb w bv w3 bv' → Below w3.heap.size w3 w4 → PtEnd B w cb nv bv l rb (i + 1 + m) env (.ok (.tl a)) (.returned (.string (S (enc (.tl a))))) w4) := fun w3 w4 bv' h1 h2 h3 => ⟨rfl, bv', h1.below h3, h2.trans (Mv.below h3)⟩
        clear HFN h64t
        go_enter Tryz.func103, Tryz.ntmps103
        go_wp2_with fail
        refine hPs.mono ?_
        rintro e w3 ⟨v, bv', rfl, hT, hC3, hM3⟩
        clear hPs
        obtain ⟨va, vc, rfl⟩ := texts_len hT
        obtain ⟨kb, ko, rfl, hkc, hkb, k0⟩ := texts_at (k := 0) hT rfl
        obtain ⟨kb', ko', hke, -, -, k1⟩ := texts_at (k := 1) hT rfl
        obtain ⟨rfl, rfl⟩ : kb = kb' ∧ ko = ko' := by simpa using hke
        rw [Nat.add_zero] at k0
        simp only [List.length_cons, List.length_nil, List.length_map] at hkc
        clear hT hke
        go_wp2_with fail
        go_region_with (first | (go_at_call 152; refine (hap _ _).mono ?_; rintro e w4 ⟨v2, rfl, hT2, hB4⟩; have hT2' : T3.IsTexts w4 v2 ([a].map enc) := hT2; obtain ⟨va2, vc2, rfl⟩ := texts_len hT2'; obtain ⟨fb, fo, rfl, hfc, hfb, f0⟩ := texts_at (k := 0) hT2' rfl; rw [Nat.add_zero] at f0; simp only [List.length_cons, List.length_nil, List.length_map] at hfc; have k0' := (hB4.cell (p := ⟨kb, ko, none⟩) hkb).trans k0; have k1' := (hB4.cell (p := ⟨kb, ko + 1, none⟩) hkb).trans k1) | (go_at_call 150; refine (hyes _ _).mono ?_; rintro e w5 ⟨rfl, hw5⟩; replace hw5 := hw5.symm; subst hw5))
        all_goals
          have hfin := HF.out w3 w4 bv' hC3 hM3 (by first | exact hB4 | exact below_drewP hB4)
          clear HF hap hyes hT2 hT2' hC3 hM3
          go_wp2_with fail
          go_ret
          exact hfin
      · rw [if_neg he]
        have hno := casks_no a A he
        clear h64t
        go_enter Tryz.func103, Tryz.ntmps103
        go_wp2_with fail
        refine hPs.mono ?_
        rintro e w3 ⟨v, bv', rfl, hT, hC3, hM3⟩
        clear hPs
        obtain ⟨va, vc, rfl⟩ := texts_len hT
        obtain ⟨kb, ko, rfl, hkc, hkb, k0⟩ := texts_at (k := 0) hT rfl
        obtain ⟨kb', ko', hke, -, -, k1⟩ := texts_at (k := 1) hT rfl
        obtain ⟨rfl, rfl⟩ : kb = kb' ∧ ko = ko' := by simpa using hke
        rw [Nat.add_zero] at k0
        simp only [List.length_cons, List.length_nil, List.length_map] at hkc
        clear hT hke
        go_wp2_with fail
        go_region_with (first | (go_at_call 152; refine (hap _ _).mono ?_; rintro e w4 ⟨v2, rfl, hT2, hB4⟩; have hT2' : T3.IsTexts w4 v2 ([A].map enc) := hT2; obtain ⟨va2, vc2, rfl⟩ := texts_len hT2'; obtain ⟨fb, fo, rfl, hfc, hfb, f0⟩ := texts_at (k := 0) hT2' rfl; rw [Nat.add_zero] at f0; simp only [List.length_cons, List.length_nil, List.length_map] at hfc; have k0' := (hB4.cell (p := ⟨kb, ko, none⟩) hkb).trans k0; have k1' := (hB4.cell (p := ⟨kb, ko + 1, none⟩) hkb).trans k1) | (go_at_call 150; refine (hno _ _).mono ?_; rintro e w5 ⟨rfl, hw5⟩; replace hw5 := hw5.symm; subst hw5; refine (fun (_ : wpAny Tryz.prog .any #[] (fun _ _ _ => True) 0 #[] ⟨#[], []⟩ w4) => ⟨rfl, HFN.out _ bv' hM3 (by first | exact hB4 | exact below_drewP hB4)⟩) ?_))
        all_goals trivial
    · have hne : ((T3.Tp.hd t).toNat : Int) ≠ 108 := by
        intro e
        cases t <;> simp [T3.Tp.hd] at e
        exact hh ⟨_, rfl⟩
      have hap := capart_no t h64t 108 hne
      have hru2 : rul env x i [a, t] = .error (23, i) := by
        rw [hru]
        cases t <;> first | rfl | (exfalso; exact hh ⟨_, rfl⟩)
      rw [hru2]
      clear h hru h64 h64t hh hne hru2
      go_enter Tryz.func103, Tryz.ntmps103
      go_wp2_with fail
      refine hPs.mono ?_
      rintro e w3 ⟨v, bv', rfl, hT, hC3, hM3⟩
      clear hPs
      obtain ⟨va, vc, rfl⟩ := texts_len hT
      obtain ⟨kb, ko, rfl, hkc, hkb, k0⟩ := texts_at (k := 0) hT rfl
      obtain ⟨kb', ko', hke, -, -, k1⟩ := texts_at (k := 1) hT rfl
      obtain ⟨rfl, rfl⟩ : kb = kb' ∧ ko = ko' := by simpa using hke
      rw [Nat.add_zero] at k0
      simp only [List.length_cons, List.length_nil, List.length_map] at hkc
      clear hT hke
      go_wp2_with fail
      go_region_with (go_at_call 152; refine (hap _ _).mono ?_; rintro e w4 ⟨rfl, hw4⟩; replace hw4 := hw4.symm; subst hw4; refine (fun (_ : wpAny Tryz.prog .any #[] (fun _ _ _ => True) 0 #[] ⟨#[], []⟩ w3) => ⟨rfl, HFN.out _ bv' hM3 (by first | exact below_drew (Below.refl _ _) | exact Below.refl _ _)⟩) ?_)
      all_goals trivial

end Go.Proofs.YthdlfeejeboboaaGreatDoor
namespace Go.Proofs.YthdlfeejeboboaaGreatDoor
open Go.RowKit Co
open T3.Tp (Ty enc cns)
open Tr (T flat flats)
set_option maxRecDepth 100000
set_option linter.unusedSimpArgs false
set_option linter.unusedVariables false

set_option maxHeartbeats 4000000 in
theorem kind_set {B cb : Nat} {nv : Value} {l : List Tr.Nd} {rb N : Nat} {x : Tr.Nd} {ks : List T} {i : Nat} {rest : List Tr.Nd} (h : Kn B cb nv l rb N x ks i rest) (hκ : x.kind = 28) : KindC B cb nv l rb 106 x ks i := by
  intro env bv w hE hen hC
  have hks := h.kidN (n := 2) (by rw [hκ]; decide) (by omega)
  have hPs := parts_any B cb nv l rb N h.hl h.hP x ks i rest env bv w h.hx h.hk h.hw h.hN h.hd hE hen hC
  have hlen := fun ts h => tyL_len ks env (i + 1) ts hE h
  have hlt := fun ts h => tyL_lenth (env := env) ks (i + 1) ts h
  have hr : tyT env (.nd x ks) i = match tyL env ks (i + 1) with | .error q => .error q | .ok ts => rul env x i ts := tyT_plain (by omega)
  rw [hr]
  generalize tyL env ks (i + 1) = R at *
  clear hr hC
  generalize (flats ks).length = m at *
  cases R with
  | error q =>
    have HF : Aside (∀ e w3, PsEnd B w cb nv bv l rb (i + 1 + m) env (.error q) e w3 → e = .panicked (thC q.1 q.2) ∧ PtEnd B w cb nv bv l rb (i + 1 + m) env (.error q) e w3) := fun e w3 h => ⟨h.1, h⟩
    clear h hlen hlt hks
    go_enter Tryz.func106, Tryz.ntmps106
    go_wp2_with fail
    refine hPs.mono ?_
    intro e w3 h3
    obtain ⟨rfl, h4⟩ := HF.out e w3 h3
    clear hPs HF h3
    go_wp2_with fail
    exact ⟨rfl, h4⟩
  | ok ts =>
    have h64 := hlen ts rfl
    have hl2 := hlt ts rfl
    obtain ⟨t, a, rfl⟩ : ∃ t a, ts = [t, a] := by
      match ts, (show ts.length = 2 by omega) with
      | [t, a], _ => exact ⟨t, a, rfl⟩
    show Calls _ _ _ _ (PtEnd B w cb nv bv l rb (i + 1 + m) env (rul env x i [t, a]))
    clear hlen hlt hl2 hks
    have hru : rul env x i [t, a] = match t with | .tx A => if a = A then .ok a else .error (23, i) | _ => .error (23, i) := by
      unfold rul
      simp only [hκ]
      cases t <;> simp
    have h64t := h64 t (by simp)
    have HFN : Aside (∀ w3 w4 bv', Mv cb w bv w3 bv' → Below w3.heap.size w3 w4 → PtEnd B w cb nv bv l rb (i + 1 + m) env (.error (23, i)) (.panicked (thC 23 i)) w4) := fun w3 w4 bv' h2 h3 => ⟨rfl, h2.thenF (Fr.below h3)⟩
    have HFN : Aside (∀ {w3 : World} (w4 : World) (bv' : Value), Mv cb w bv w3 bv' → Below w3.heap.size w3 w4 → PtEnd B w cb nv bv l rb (i + 1 + m) env (.error (23, i)) (.panicked (thC 23 i)) w4) := fun {w3} w4 bv' h2 h3 => HFN.out w3 w4 bv' h2 h3
    by_cases hh : ∃ A : Ty, t = .tx A
    · obtain ⟨A, rfl⟩ := hh
      have hap := capart_yes (.tx A) h64t 120 rfl
      rw [hru]
      show Calls _ _ _ _ (PtEnd B w cb nv bv l rb (i + 1 + m) env (if a = A then .ok a else .error (23, i)))
      clear hru h h64
      by_cases he : a = A
      · subst he
        rw [if_pos rfl]
        have hyes := casks_yes a
        have HF : Aside (∀ w3 w4 bv', Cs B w3 cb nv bv' l rb (i + 1 + m) env → Mv cb w bv w3 bv' → Below w3.heap.size w3 w4 → PtEnd B w cb nv bv l rb (i + 1 + m) env (.ok a) (.returned (.string (S (enc a)))) w4) := fun w3 w4 bv' h1 h2 h3 => ⟨rfl, bv', h1.below h3, h2.trans (Mv.below h3)⟩
        clear HFN h64t
        go_enter Tryz.func106, Tryz.ntmps106
        go_wp2_with fail
        refine hPs.mono ?_
        rintro e w3 ⟨v, bv', rfl, hT, hC3, hM3⟩
        clear hPs
        obtain ⟨va, vc, rfl⟩ := texts_len hT
        obtain ⟨kb, ko, rfl, hkc, hkb, k0⟩ := texts_at (k := 0) hT rfl
        obtain ⟨kb', ko', hke, -, -, k1⟩ := texts_at (k := 1) hT rfl
        obtain ⟨rfl, rfl⟩ : kb = kb' ∧ ko = ko' := by simpa using hke
        rw [Nat.add_zero] at k0
        simp only [List.length_cons, List.length_nil, List.length_map] at hkc
        clear hT hke
        go_wp2_with fail
        go_region_with (first | (go_at_call 152; refine (hap _ _).mono ?_; rintro e w4 ⟨v2, rfl, hT2, hB4⟩; have hT2' : T3.IsTexts w4 v2 ([a].map enc) := hT2; obtain ⟨va2, vc2, rfl⟩ := texts_len hT2'; obtain ⟨fb, fo, rfl, hfc, hfb, f0⟩ := texts_at (k := 0) hT2' rfl; rw [Nat.add_zero] at f0; simp only [List.length_cons, List.length_nil, List.length_map] at hfc; have k0' := (hB4.cell (p := ⟨kb, ko, none⟩) hkb).trans k0; have k1' := (hB4.cell (p := ⟨kb, ko + 1, none⟩) hkb).trans k1) | (go_at_call 150; refine (hyes _ _).mono ?_; rintro e w5 ⟨rfl, hw5⟩; replace hw5 := hw5.symm; subst hw5))
        all_goals
          have hfin := HF.out w3 w4 bv' hC3 hM3 (by first | exact hB4 | exact below_drewP hB4)
          clear HF hap hyes hT2 hT2' hC3 hM3
          go_wp2_with fail
          go_ret
          exact hfin
      · rw [if_neg he]
        have hno := casks_no a A he
        clear h64t
        go_enter Tryz.func106, Tryz.ntmps106
        go_wp2_with fail
        refine hPs.mono ?_
        rintro e w3 ⟨v, bv', rfl, hT, hC3, hM3⟩
        clear hPs
        obtain ⟨va, vc, rfl⟩ := texts_len hT
        obtain ⟨kb, ko, rfl, hkc, hkb, k0⟩ := texts_at (k := 0) hT rfl
        obtain ⟨kb', ko', hke, -, -, k1⟩ := texts_at (k := 1) hT rfl
        obtain ⟨rfl, rfl⟩ : kb = kb' ∧ ko = ko' := by simpa using hke
        rw [Nat.add_zero] at k0
        simp only [List.length_cons, List.length_nil, List.length_map] at hkc
        clear hT hke
        go_wp2_with fail
        go_region_with (first | (go_at_call 152; refine (hap _ _).mono ?_; rintro e w4 ⟨v2, rfl, hT2, hB4⟩; have hT2' : T3.IsTexts w4 v2 ([A].map enc) := hT2; obtain ⟨va2, vc2, rfl⟩ := texts_len hT2'; obtain ⟨fb, fo, rfl, hfc, hfb, f0⟩ := texts_at (k := 0) hT2' rfl; rw [Nat.add_zero] at f0; simp only [List.length_cons, List.length_nil, List.length_map] at hfc; have k0' := (hB4.cell (p := ⟨kb, ko, none⟩) hkb).trans k0; have k1' := (hB4.cell (p := ⟨kb, ko + 1, none⟩) hkb).trans k1) | (go_at_call 150; refine (hno _ _).mono ?_; rintro e w5 ⟨rfl, hw5⟩; replace hw5 := hw5.symm; subst hw5; refine (fun (_ : wpAny Tryz.prog .any #[] (fun _ _ _ => True) 0 #[] ⟨#[], []⟩ w4) => ⟨rfl, HFN.out _ bv' hM3 (by first | exact hB4 | exact below_drewP hB4)⟩) ?_))
        all_goals trivial
    · have hne : ((T3.Tp.hd t).toNat : Int) ≠ 120 := by
        intro e
        cases t <;> simp [T3.Tp.hd] at e
        exact hh ⟨_, rfl⟩
      have hap := capart_no t h64t 120 hne
      have hru2 : rul env x i [t, a] = .error (23, i) := by
        rw [hru]
        cases t <;> first | rfl | (exfalso; exact hh ⟨_, rfl⟩)
      rw [hru2]
      clear h hru h64 h64t hh hne hru2
      go_enter Tryz.func106, Tryz.ntmps106
      go_wp2_with fail
      refine hPs.mono ?_
      rintro e w3 ⟨v, bv', rfl, hT, hC3, hM3⟩
      clear hPs
      obtain ⟨va, vc, rfl⟩ := texts_len hT
      obtain ⟨kb, ko, rfl, hkc, hkb, k0⟩ := texts_at (k := 0) hT rfl
      obtain ⟨kb', ko', hke, -, -, k1⟩ := texts_at (k := 1) hT rfl
      obtain ⟨rfl, rfl⟩ : kb = kb' ∧ ko = ko' := by simpa using hke
      rw [Nat.add_zero] at k0
      simp only [List.length_cons, List.length_nil, List.length_map] at hkc
      clear hT hke
      go_wp2_with fail
      go_region_with (go_at_call 152; refine (hap _ _).mono ?_; rintro e w4 ⟨rfl, hw4⟩; replace hw4 := hw4.symm; subst hw4; refine (fun (_ : wpAny Tryz.prog .any #[] (fun _ _ _ => True) 0 #[] ⟨#[], []⟩ w3) => ⟨rfl, HFN.out _ bv' hM3 (by first | exact below_drew (Below.refl _ _) | exact Below.refl _ _)⟩) ?_)
      all_goals trivial

end Go.Proofs.YthdlfeejeboboaaGreatDoor
namespace Go.Proofs.YthdlfeejeboboaaGreatDoor
open Go.RowKit Co
open T3.Tp (Ty enc cns)
open Tr (T flat flats)
set_option maxRecDepth 100000
set_option linter.unusedSimpArgs false
set_option linter.unusedVariables false

set_option maxHeartbeats 4000000 in
theorem kind_choice {B cb : Nat} {nv : Value} {l : List Tr.Nd} {rb N : Nat} {x : Tr.Nd} {ks : List T} {i : Nat} {rest : List Tr.Nd} (h : Kn B cb nv l rb N x ks i rest) (hκ : x.kind = 9) : KindC B cb nv l rb 91 x ks i := by
  intro env bv w hE hen hC
  have hks := h.kidN (n := 3) (by rw [hκ]; decide) (by omega)
  have hPs := parts_any B cb nv l rb N h.hl h.hP x ks i rest env bv w h.hx h.hk h.hw h.hN h.hd hE hen hC
  have hlen := fun ts h => tyL_len ks env (i + 1) ts hE h
  have hlt := fun ts h => tyL_lenth (env := env) ks (i + 1) ts h
  have hr : tyT env (.nd x ks) i = match tyL env ks (i + 1) with | .error q => .error q | .ok ts => rul env x i ts := tyT_plain (by omega)
  rw [hr]
  generalize tyL env ks (i + 1) = R at *
  clear hr hC
  generalize (flats ks).length = m at *
  cases R with
  | error q =>
    have HF : Aside (∀ e w3, PsEnd B w cb nv bv l rb (i + 1 + m) env (.error q) e w3 → e = .panicked (thC q.1 q.2) ∧ PtEnd B w cb nv bv l rb (i + 1 + m) env (.error q) e w3) := fun e w3 h => ⟨h.1, h⟩
    clear h hlen hlt hks
    go_enter Tryz.func91, Tryz.ntmps91
    go_wp2_with fail
    refine hPs.mono ?_
    intro e w3 h3
    obtain ⟨rfl, h4⟩ := HF.out e w3 h3
    clear hPs HF h3
    go_wp2_with fail
    exact ⟨rfl, h4⟩
  | ok ts =>
    have h64 := hlen ts rfl
    have hl2 := hlt ts rfl
    obtain ⟨c, a, b, rfl⟩ : ∃ c a b, ts = [c, a, b] := by
      match ts, (show ts.length = 3 by omega) with
      | [c, a, b], _ => exact ⟨c, a, b, rfl⟩
    show Calls _ _ _ _ (PtEnd B w cb nv bv l rb (i + 1 + m) env (rul env x i [c, a, b]))
    clear hlen hlt hl2 hks
    have hru : rul env x i [c, a, b] = if c = .tb then (if a = b then .ok a else .error (23, i)) else .error (23, i) := by
      unfold rul
      simp [hκ]
    have HFN : Aside (∀ {w3 : World} (w4 : World) (bv' : Value), Mv cb w bv w3 bv' → Below w3.heap.size w3 w4 → PtEnd B w cb nv bv l rb (i + 1 + m) env (.error (23, i)) (.panicked (thC 23 i)) w4) := fun {w3} w4 bv' h2 h3 => ⟨rfl, h2.thenF (Fr.below h3)⟩
    rw [hru]
    clear hru h h64
    by_cases hc : c = .tb
    · subst hc
      rw [if_pos rfl]
      have hyc : ∀ (i : Int) (w : World), Calls Tryz.prog 150 #[.int .i64 i, .string (S (enc .tb)), .string ⟨#[98]⟩] w fun en w' => en = .returned (.tuple #[]) ∧ w' = w := casks_yes .tb
      by_cases he : a = b
      · subst he
        rw [if_pos rfl]
        have hyes := casks_yes a
        have HF : Aside (∀ w3 w4 bv', Cs B w3 cb nv bv' l rb (i + 1 + m) env → Mv cb w bv w3 bv' → Below w3.heap.size w3 w4 → PtEnd B w cb nv bv l rb (i + 1 + m) env (.ok a) (.returned (.string (S (enc a)))) w4) := fun w3 w4 bv' h1 h2 h3 => ⟨rfl, bv', h1.below h3, h2.trans (Mv.below h3)⟩
        clear HFN
        go_enter Tryz.func91, Tryz.ntmps91
        go_wp2_with fail
        refine hPs.mono ?_
        rintro e w3 ⟨v, bv', rfl, hT, hC3, hM3⟩
        clear hPs
        obtain ⟨va, vc, rfl⟩ := texts_len hT
        obtain ⟨kb, ko, rfl, hkc, hkb, k0⟩ := texts_at (k := 0) hT rfl
        obtain ⟨kb', ko', hke, -, -, k1⟩ := texts_at (k := 1) hT rfl
        obtain ⟨rfl, rfl⟩ : kb = kb' ∧ ko = ko' := by simpa using hke
        rw [Nat.add_zero] at k0
        simp only [List.length_cons, List.length_nil, List.length_map] at hkc
        obtain ⟨kb', ko', hke, -, -, k2⟩ := texts_at (k := 2) hT rfl
        obtain ⟨rfl, rfl⟩ : kb = kb' ∧ ko = ko' := by simpa using hke
        have hfin : ∀ W, Below w3.heap.size w3 W → _ := fun W hW => HF.out w3 W bv' hC3 hM3 hW
        clear hT hke HF hC3 hM3
        go_wp2_with fail
        refine (hyc _ _).mono ?_
        rintro e w4 ⟨rfl, hw4⟩
        replace hw4 := hw4.symm
        subst hw4
        clear hyc
        go_wp2_with fail
        go_region_with (go_at_call 150; refine (hyes _ _).mono ?_; rintro e w5 ⟨rfl, hw5⟩; replace hw5 := hw5.symm; subst hw5)
        all_goals
          go_wp2_with fail
          go_ret
          exact hfin _ (by first | exact below_drew (Below.refl _ _) | exact Below.refl _ _)
      · rw [if_neg he]
        have hno := casks_no a b he
        go_enter Tryz.func91, Tryz.ntmps91
        go_wp2_with fail
        refine hPs.mono ?_
        rintro e w3 ⟨v, bv', rfl, hT, hC3, hM3⟩
        clear hPs
        obtain ⟨va, vc, rfl⟩ := texts_len hT
        obtain ⟨kb, ko, rfl, hkc, hkb, k0⟩ := texts_at (k := 0) hT rfl
        obtain ⟨kb', ko', hke, -, -, k1⟩ := texts_at (k := 1) hT rfl
        obtain ⟨rfl, rfl⟩ : kb = kb' ∧ ko = ko' := by simpa using hke
        rw [Nat.add_zero] at k0
        simp only [List.length_cons, List.length_nil, List.length_map] at hkc
        obtain ⟨kb', ko', hke, -, -, k2⟩ := texts_at (k := 2) hT rfl
        obtain ⟨rfl, rfl⟩ : kb = kb' ∧ ko = ko' := by simpa using hke
        clear hT hke hC3
        go_wp2_with fail
        refine (hyc _ _).mono ?_
        rintro e w4 ⟨rfl, hw4⟩
        replace hw4 := hw4.symm
        subst hw4
        clear hyc
        go_wp2_with fail
        go_region_with (go_at_call 150; refine (hno _ _).mono ?_; rintro e w5 ⟨rfl, hw5⟩; replace hw5 := hw5.symm; subst hw5; refine (fun (_ : wpAny Tryz.prog .any #[] (fun _ _ _ => True) 0 #[] ⟨#[], []⟩ w3) => ⟨rfl, HFN.out _ bv' hM3 (by first | exact below_drew (Below.refl _ _) | exact Below.refl _ _)⟩) ?_)
        all_goals trivial
    · rw [if_neg hc]
      have hno : ∀ (i : Int) (w : World), Calls Tryz.prog 150 #[.int .i64 i, .string (S (enc c)), .string ⟨#[98]⟩] w fun en w' => en = .panicked (thC 23 i) ∧ w' = w := casks_no c .tb hc
      go_enter Tryz.func91, Tryz.ntmps91
      go_wp2_with fail
      refine hPs.mono ?_
      rintro e w3 ⟨v, bv', rfl, hT, hC3, hM3⟩
      clear hPs
      obtain ⟨va, vc, rfl⟩ := texts_len hT
      obtain ⟨kb, ko, rfl, hkc, hkb, k0⟩ := texts_at (k := 0) hT rfl
      obtain ⟨kb', ko', hke, -, -, k1⟩ := texts_at (k := 1) hT rfl
      obtain ⟨rfl, rfl⟩ : kb = kb' ∧ ko = ko' := by simpa using hke
      rw [Nat.add_zero] at k0
      simp only [List.length_cons, List.length_nil, List.length_map] at hkc
      have hfin := HFN.out w3 bv' hM3 (Below.refl _ _)
      clear hT hke HFN hC3 hM3
      go_wp2_with fail
      refine (hno _ _).mono ?_
      rintro e w4 ⟨rfl, hw4⟩
      replace hw4 := hw4.symm
      subst hw4
      clear hno
      go_wp2_with fail
      exact ⟨rfl, hfin⟩
end Go.Proofs.YthdlfeejeboboaaGreatDoor
