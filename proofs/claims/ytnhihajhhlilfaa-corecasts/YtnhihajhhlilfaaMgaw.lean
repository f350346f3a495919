/- Package core: function. Package core: recursive. -/
import Derived.Test.YtnhihajhhlilfaaMgau
namespace Go.Proofs.Ytnhihajhhlilfaa
open Go.RowKit Co
open T3.Tp (Ty enc cns)
open Tr (T flat flats)
set_option maxRecDepth 100000
set_option linter.unusedSimpArgs false
set_option linter.unusedVariables false

set_option maxHeartbeats 4000000 in
theorem kind_function {B cb : Nat} {nv : Value} {l : List Tr.Nd} {rb N : Nat} {x : Tr.Nd} {ks : List T} {i : Nat} {rest : List Tr.Nd} (h : Kn B cb nv l rb N x ks i rest) (hκ : x.kind = 5) : KindC B cb nv l rb 33 x ks i := by
  intro env bv w hE hen hC
  obtain ⟨a, rfl⟩ := h.one (by rw [hκ]; decide)
  obtain ⟨nb, no, nc, rfl, hlc, hnb, hnc, hcx⟩ := hC.at h.hx
  have hil : i < l.length := (List.getElem?_eq_some_iff.1 h.hx).1
  have hil' : (i : Int) < (l.length : Int) := by omega
  have hi0 : (0 : Int) ≤ (i : Int) := by omega
  have c0 := hC.nod
  obtain ⟨p0, p1, p2, p3, p4, p5, p6, p7⟩ := agg_cells (o := no + i * 8) hcx
  have hr : tyT env (.nd x [a]) i = if goodB x.t = true ∧ goodB x.u = true ∧ sz (.tf (tyS x.t) (tyS x.u)) ≤ 64 then (match tyT (tyS x.t :: env) a (i + 1) with | .error e => .error e | .ok τ => if τ = tyS x.u then .ok (.tf (tyS x.t) (tyS x.u)) else .error (23, i)) else .error (arE x, i) := by
    rw [tyT]
    have hi : inn x env = (tyS x.t :: env) := by unfold inn; simp [hκ]
    have ha : ahd env.length x i = if goodB x.t = true ∧ goodB x.u = true ∧ sz (.tf (tyS x.t) (tyS x.u)) ≤ 64 then Option.none else some (arE x, i) := by
      unfold ahd arE
      simp only [hκ]
      cases goodB x.t <;> cases goodB x.u <;> simp
    rw [ha]
    by_cases hg : goodB x.t = true ∧ goodB x.u = true ∧ sz (.tf (tyS x.t) (tyS x.u)) ≤ 64
    · rw [if_pos hg, if_pos hg]
      show (if x.kind = 8 then _ else match tyL (inn x env) [a] (i + 1) with | Except.error e => Except.error e | Except.ok ts => rul env x i ts) = _
      rw [if_neg (by omega), hi, tyL_one]
      cases tyT (tyS x.t :: env) a (i + 1) with
      | error e => rfl
      | ok τ =>
        show rul env x i [τ] = _
        unfold rul
        simp [hκ]
    · rw [if_neg hg, if_neg hg]
  rw [hr]
  obtain ⟨W1, hW1⟩ : ∃ W1, W1 = w.alloc (.cells #[.int .i8 x.kind, .int .i64 x.kids, .int .i64 x.n, .string x.s, .string x.t, .string x.u, .int .i64 x.ln, .int .i64 x.co] 44) := ⟨_, rfl⟩
  have hB1 : Below w.heap.size w W1 := by rw [hW1]; exact (Below.refl _ _).alloc (Nat.le_refl _) _
  have hz1 : W1.heap.size = w.heap.size + 1 := by rw [hW1]; simp
  have hN1 : W1.heap[w.heap.size]? = some (.cells #[.int .i8 x.kind, .int .i64 x.kids, .int .i64 x.n, .string x.s, .string x.t, .string x.u, .int .i64 x.ln, .int .i64 x.co] 44) := by rw [hW1]; exact heap_alloc_new _ _
  have k0 := (block_cells hN1).1 0
  have k1 := (block_cells hN1).1 1
  have k2 := (block_cells hN1).1 2
  have k3 := (block_cells hN1).1 3
  have k4 := (block_cells hN1).1 4
  have k5 := (block_cells hN1).1 5
  have k6 := (block_cells hN1).1 6
  have k7 := (block_cells hN1).1 7
  by_cases hg : goodB x.t = true ∧ goodB x.u = true ∧ sz (.tf (tyS x.t) (tyS x.u)) ≤ 64
  · rw [if_pos hg]
    have har := carrow_yes x hg.1 hg.2.1 hg.2.2
    have hux := str_good hg.2.1
    have HPt : Aside (∀ (w2 W2 : World) (n : Nat), Below W1.heap.size W1 w2 → (W2 = w2.alloc (.cells #[.string x.t] 9) ∨ W2 = (w2.alloc (.cells #[.string x.t] 9)).drew) → n = w2.heap.size → Calls Try.prog 27 #[.pointer (some ⟨cb, 0, none⟩), .slice (some ⟨n, 0, none⟩) 1 1] W2 (fun e w4 => PtEnd B w cb (.slice (some ⟨nb, no, none⟩) l.length nc) bv l rb (i + 1 + (flats [a]).length) env (tyT (tyS x.t :: env) a (i + 1)) e w4 ∧ w4.cell? ⟨w.heap.size, 5, none⟩ = some (.string x.u))) := fun w2 W2 n hB2 hW hn => by
      have hB3 : Below w2.heap.size w2 W2 := by
        rcases hW with hW | hW
        · rw [hW]; exact (Below.refl _ _).alloc (Nat.le_refl _) _
        · rw [hW]; exact below_drew ((Below.refl _ _).alloc (Nat.le_refl _) _)
      have hBd : Bd W2 (.slice (some ⟨n, 0, none⟩) 1 1) [tyS x.t] := by
        rcases hW with hW | hW
        · exact Bd.one (str_good hg.1) hW hn
        · have := Bd.one (W := w2) (str_good hg.1) rfl hn
          rw [hW]
          exact this
      have hBa : Below w.heap.size w W2 := hB1.trans ((hB2.trans (hB3.mono hB2.size)).mono (by omega))
      have hc5 : W2.cell? ⟨w.heap.size, 5, none⟩ = some (.string x.u) := by
        have h1 : Below W1.heap.size W1 W2 := hB2.trans (hB3.mono hB2.size)
        rw [h1.cell (p := ⟨w.heap.size, 5, none⟩) (by show w.heap.size < _; omega)]
        exact k5
      have hlt2 : w.heap.size < W2.heap.size := World.block_lt_of_cell? _ _ hc5
      have hlt := hC.lt
      refine (h.part [tyS x.t] _ (fun t ht => by
        simp at ht
        rcases ht with rfl | ht
        · exact (good_enc hg.1).2
        
        · exact hE t ht) hen (hC.below hBa) hBd).mono ?_
      intro e w4 h4
      have h4' : PtEnd B W2 cb (.slice (some ⟨nb, no, none⟩) l.length nc) bv l rb (i + 1 + (flats [a]).length) env (tyT (tyS x.t :: env) a (i + 1)) e w4 := h4
      have hfr : Fr cb bv W2 w4 := by
        cases hR : tyT (tyS x.t :: env) a (i + 1) with
        | error q => rw [hR] at h4'; exact h4'.2
        | ok τ => rw [hR] at h4'; obtain ⟨_, bv', _, h6⟩ := h4'; exact h6.fr
      refine ⟨?_, ?_⟩
      · cases hR : tyT (tyS x.t :: env) a (i + 1) with
        | error q => rw [hR] at h4'; exact ⟨h4'.1, (Mv.below hBa).thenF h4'.2⟩
        | ok τ =>
          rw [hR] at h4'
          obtain ⟨h5, bv', h6, h7⟩ := h4'
          exact ⟨h5, bv', h6, (Mv.below hBa).trans h7⟩
      · rw [hfr.cell hlt2 (by omega) (fun e => by have := own_lt hC.own _ e.symm; omega)]
        exact hc5
    generalize tyT (tyS x.t :: env) a (i + 1) = R at *
    generalize (flats [a]).length = m at *
    cases R with
    | error q =>
      clear hr hC h hcx hκ hN1 hux
      go_enter Try.func33, Try.ntmps33
      go_upto_region 2 with fail
      rw [← hW1]
      clear hW1 p0 p1 p2 p3 p4 p5 p6 p7 c0
      go_wp2_with fail
      refine (har _ _).mono ?_
      rintro e w2 ⟨rfl, hB2⟩
      have hPt := fun W2 n => HPt.out w2 W2 n hB2
      have k4' := (hB2.cell (p := ⟨w.heap.size, 4, none⟩) (by show w.heap.size < _; omega)).trans k4
      have k5' := (hB2.cell (p := ⟨w.heap.size, 5, none⟩) (by show w.heap.size < _; omega)).trans k5
      have hlt2 : w.heap.size < w2.heap.size := by have := hB2.size; omega
      clear har HPt k0 k1 k2 k3 k4 k5 k6 k7 hg
      go_wp2_with fail
      go_region_with (go_at_call 27; refine (hPt _ _ (by first | exact .inl rfl | exact .inr rfl) rfl).mono ?_; rintro e w4 ⟨h4, -⟩; have he := h4.1; subst he; refine (fun (_ : wpAny Try.prog .any #[] (fun _ _ _ => True) 0 #[] ⟨#[], []⟩ w4) => ⟨rfl, h4⟩) ?_)
      all_goals trivial
    | ok τ =>
      show Calls _ _ _ _ (PtEnd B w cb (.slice (some ⟨nb, no, none⟩) l.length nc) bv l rb (i + 1 + m) env (if τ = tyS x.u then .ok (.tf (tyS x.t) (tyS x.u)) else .error (23, i)))
      by_cases hτ : τ = tyS x.u
      · rw [if_pos hτ]
        subst hτ
        have hS : ∀ (i : Int) (w : World), Calls Try.prog 60 #[.int .i64 i, .string (S (enc (tyS x.u))), .string x.u] w fun en w' => en = .returned (.tuple #[]) ∧ w' = w := fun i w => by
          have := casks_yes (tyS x.u) i w
          rw [← hux] at this ⊢
          exact this
        have HF : Aside (∀ e w4 w5, PtEnd B w cb (.slice (some ⟨nb, no, none⟩) l.length nc) bv l rb (i + 1 + m) env (.ok (tyS x.u)) e w4 → Below w4.heap.size w4 w5 → PtEnd B w cb (.slice (some ⟨nb, no, none⟩) l.length nc) bv l rb (i + 1 + m) env (.ok (.tf (tyS x.t) (tyS x.u))) (.returned (.string (S (enc (.tf (tyS x.t) (tyS x.u)))))) w5) := fun e w4 w5 h4 hB => by
          obtain ⟨_, bv', h6, h7⟩ := h4
          exact ⟨rfl, bv', h6.below hB, h7.trans (Mv.below hB)⟩
        clear hr hC h hcx hκ hN1 hux
        go_enter Try.func33, Try.ntmps33
        go_upto_region 2 with fail
        rw [← hW1]
        clear hW1 p0 p1 p2 p3 p4 p5 p6 p7 c0
        go_wp2_with fail
        refine (har _ _).mono ?_
        rintro e w2 ⟨rfl, hB2⟩
        have hPt := fun W2 n => HPt.out w2 W2 n hB2
        have k4' := (hB2.cell (p := ⟨w.heap.size, 4, none⟩) (by show w.heap.size < _; omega)).trans k4
        have k5' := (hB2.cell (p := ⟨w.heap.size, 5, none⟩) (by show w.heap.size < _; omega)).trans k5
        have hlt2 : w.heap.size < w2.heap.size := by have := hB2.size; omega
        clear har HPt k0 k1 k2 k3 k4 k5 k6 k7 hg
        go_wp2_with fail
        go_region_with (first | (go_at_call 27; refine (hPt _ _ (by first | exact .inl rfl | exact .inr rfl) rfl).mono ?_; rintro e w4 ⟨h4, hc5⟩; have he := h4.1; subst he; have hfin := HF.out _ w4 w4 h4 (Below.refl _ _)) | (go_at_call 60; refine (hS _ _).mono ?_; rintro e w5 ⟨rfl, hw5⟩; replace hw5 := hw5.symm; subst hw5))
        all_goals
          clear hPt HF hS h4
          go_wp2_with fail
          go_ret
          exact hfin
      · rw [if_neg hτ]
        have hS : ∀ (i : Int) (w : World), Calls Try.prog 60 #[.int .i64 i, .string (S (enc τ)), .string x.u] w fun en w' => en = .panicked (thC 23 i) ∧ w' = w := fun i w => by
          have := casks_no τ (tyS x.u) hτ i w
          rw [← hux] at this
          exact this
        have HF : Aside (∀ e w4, PtEnd B w cb (.slice (some ⟨nb, no, none⟩) l.length nc) bv l rb (i + 1 + m) env (.ok τ) e w4 → PtEnd B w cb (.slice (some ⟨nb, no, none⟩) l.length nc) bv l rb (i + 1 + m) env (.error (23, i)) (.panicked (thC 23 i)) w4) := fun e w4 h4 => by
          obtain ⟨_, bv', h6, h7⟩ := h4
          exact ⟨rfl, h7.fr⟩
        clear hr hC h hcx hκ hN1 hux hτ
        go_enter Try.func33, Try.ntmps33
        go_upto_region 2 with fail
        rw [← hW1]
        clear hW1 p0 p1 p2 p3 p4 p5 p6 p7 c0
        go_wp2_with fail
        refine (har _ _).mono ?_
        rintro e w2 ⟨rfl, hB2⟩
        have hPt := fun W2 n => HPt.out w2 W2 n hB2
        have k4' := (hB2.cell (p := ⟨w.heap.size, 4, none⟩) (by show w.heap.size < _; omega)).trans k4
        have k5' := (hB2.cell (p := ⟨w.heap.size, 5, none⟩) (by show w.heap.size < _; omega)).trans k5
        have hlt2 : w.heap.size < w2.heap.size := by have := hB2.size; omega
        clear har HPt k0 k1 k2 k3 k4 k5 k6 k7 hg
        go_wp2_with fail
        go_region_with (first | (go_at_call 27; refine (hPt _ _ (by first | exact .inl rfl | exact .inr rfl) rfl).mono ?_; rintro e w4 ⟨h4, hc5⟩; have he := h4.1; subst he; have hfin := HF.out _ w4 h4) | (go_at_call 60; refine (hS _ _).mono ?_; rintro e w5 ⟨rfl, hw5⟩; replace hw5 := hw5.symm; subst hw5; refine (fun (_ : wpAny Try.prog .any #[] (fun _ _ _ => True) 0 #[] ⟨#[], []⟩ w4) => ⟨rfl, hfin⟩) ?_))
        all_goals trivial
  · rw [if_neg hg]
    have har := carrow_no x hg
    have HF : Aside (∀ w2, Below W1.heap.size W1 w2 → PtEnd B w cb (.slice (some ⟨nb, no, none⟩) l.length nc) bv l rb (i + 1 + (flats [a]).length) env (.error (arE x, i)) (.panicked (thC (arE x) i)) w2) := fun w2 hB => ⟨rfl, Fr.below (hB1.trans (hB.mono (by omega)))⟩
    clear hr hC h hcx hκ hN1 hg
    generalize (flats [a]).length = m at *
    go_enter Try.func33, Try.ntmps33
    go_upto_region 2 with fail
    rw [← hW1]
    clear hW1 p0 p1 p2 p3 p4 p5 p6 p7 c0
    go_wp2_with fail
    refine (har _ _).mono ?_
    rintro e w2 ⟨rfl, hB2⟩
    have hfin := HF.out w2 hB2
    clear har HF
    go_wp2_with fail
    exact ⟨rfl, hfin⟩
end Go.Proofs.Ytnhihajhhlilfaa
namespace Go.Proofs.Ytnhihajhhlilfaa
open Go.RowKit Co
open T3.Tp (Ty enc cns)
open Tr (T flat flats)
set_option maxRecDepth 100000
set_option linter.unusedSimpArgs false
set_option linter.unusedVariables false

set_option maxHeartbeats 4000000 in
theorem kind_recursive {B cb : Nat} {nv : Value} {l : List Tr.Nd} {rb N : Nat} {x : Tr.Nd} {ks : List T} {i : Nat} {rest : List Tr.Nd} (h : Kn B cb nv l rb N x ks i rest) (hκ : x.kind = 6) : KindC B cb nv l rb 34 x ks i := by
  intro env bv w hE hen hC
  obtain ⟨a, rfl⟩ := h.one (by rw [hκ]; decide)
  obtain ⟨nb, no, nc, rfl, hlc, hnb, hnc, hcx⟩ := hC.at h.hx
  have hil : i < l.length := (List.getElem?_eq_some_iff.1 h.hx).1
  have hil' : (i : Int) < (l.length : Int) := by omega
  have hi0 : (0 : Int) ≤ (i : Int) := by omega
  have c0 := hC.nod
  obtain ⟨p0, p1, p2, p3, p4, p5, p6, p7⟩ := agg_cells (o := no + i * 8) hcx
  have hr : tyT env (.nd x [a]) i = if goodB x.t = true ∧ goodB x.u = true ∧ sz (.tf (tyS x.t) (tyS x.u)) ≤ 64 then (match tyT (tyS x.t :: .tf (tyS x.t) (tyS x.u) :: env) a (i + 1) with | .error e => .error e | .ok τ => if τ = tyS x.u then .ok (.tf (tyS x.t) (tyS x.u)) else .error (23, i)) else .error (arE x, i) := by
    rw [tyT]
    have hi : inn x env = (tyS x.t :: .tf (tyS x.t) (tyS x.u) :: env) := by unfold inn; simp [hκ]
    have ha : ahd env.length x i = if goodB x.t = true ∧ goodB x.u = true ∧ sz (.tf (tyS x.t) (tyS x.u)) ≤ 64 then Option.none else some (arE x, i) := by
      unfold ahd arE
      simp only [hκ]
      cases goodB x.t <;> cases goodB x.u <;> simp
    rw [ha]
    by_cases hg : goodB x.t = true ∧ goodB x.u = true ∧ sz (.tf (tyS x.t) (tyS x.u)) ≤ 64
    · rw [if_pos hg, if_pos hg]
      show (if x.kind = 8 then _ else match tyL (inn x env) [a] (i + 1) with | Except.error e => Except.error e | Except.ok ts => rul env x i ts) = _
      rw [if_neg (by omega), hi, tyL_one]
      cases tyT (tyS x.t :: .tf (tyS x.t) (tyS x.u) :: env) a (i + 1) with
      | error e => rfl
      | ok τ =>
        show rul env x i [τ] = _
        unfold rul
        simp [hκ]
    · rw [if_neg hg, if_neg hg]
  rw [hr]
  obtain ⟨W1, hW1⟩ : ∃ W1, W1 = w.alloc (.cells #[.int .i8 x.kind, .int .i64 x.kids, .int .i64 x.n, .string x.s, .string x.t, .string x.u, .int .i64 x.ln, .int .i64 x.co] 44) := ⟨_, rfl⟩
  have hB1 : Below w.heap.size w W1 := by rw [hW1]; exact (Below.refl _ _).alloc (Nat.le_refl _) _
  have hz1 : W1.heap.size = w.heap.size + 1 := by rw [hW1]; simp
  have hN1 : W1.heap[w.heap.size]? = some (.cells #[.int .i8 x.kind, .int .i64 x.kids, .int .i64 x.n, .string x.s, .string x.t, .string x.u, .int .i64 x.ln, .int .i64 x.co] 44) := by rw [hW1]; exact heap_alloc_new _ _
  have k0 := (block_cells hN1).1 0
  have k1 := (block_cells hN1).1 1
  have k2 := (block_cells hN1).1 2
  have k3 := (block_cells hN1).1 3
  have k4 := (block_cells hN1).1 4
  have k5 := (block_cells hN1).1 5
  have k6 := (block_cells hN1).1 6
  have k7 := (block_cells hN1).1 7
  by_cases hg : goodB x.t = true ∧ goodB x.u = true ∧ sz (.tf (tyS x.t) (tyS x.u)) ≤ 64
  · rw [if_pos hg]
    have har := carrow_yes x hg.1 hg.2.1 hg.2.2
    have hux := str_good hg.2.1
    have HPt : Aside (∀ (w2 W2 : World) (n : Nat), Below W1.heap.size W1 w2 → (W2 = w2.alloc (.cells #[.string (S (enc (.tf (tyS x.t) (tyS x.u)))), .string x.t] 9) ∨ W2 = (w2.alloc (.cells #[.string (S (enc (.tf (tyS x.t) (tyS x.u)))), .string x.t] 9)).drew) → n = w2.heap.size → Calls Try.prog 27 #[.pointer (some ⟨cb, 0, none⟩), .slice (some ⟨n, 0, none⟩) 2 2] W2 (fun e w4 => PtEnd B w cb (.slice (some ⟨nb, no, none⟩) l.length nc) bv l rb (i + 1 + (flats [a]).length) env (tyT (tyS x.t :: .tf (tyS x.t) (tyS x.u) :: env) a (i + 1)) e w4 ∧ w4.cell? ⟨w.heap.size, 5, none⟩ = some (.string x.u))) := fun w2 W2 n hB2 hW hn => by
      have hB3 : Below w2.heap.size w2 W2 := by
        rcases hW with hW | hW
        · rw [hW]; exact (Below.refl _ _).alloc (Nat.le_refl _) _
        · rw [hW]; exact below_drew ((Below.refl _ _).alloc (Nat.le_refl _) _)
      have hBd : Bd W2 (.slice (some ⟨n, 0, none⟩) 2 2) [.tf (tyS x.t) (tyS x.u), tyS x.t] := by
        rcases hW with hW | hW
        · exact Bd.two rfl (str_good hg.1) hW hn
        · have := Bd.two (W := w2) (s1 := S (enc (.tf (tyS x.t) (tyS x.u)))) rfl (str_good hg.1) rfl hn
          rw [hW]
          exact this
      have hBa : Below w.heap.size w W2 := hB1.trans ((hB2.trans (hB3.mono hB2.size)).mono (by omega))
      have hc5 : W2.cell? ⟨w.heap.size, 5, none⟩ = some (.string x.u) := by
        have h1 : Below W1.heap.size W1 W2 := hB2.trans (hB3.mono hB2.size)
        rw [h1.cell (p := ⟨w.heap.size, 5, none⟩) (by show w.heap.size < _; omega)]
        exact k5
      have hlt2 : w.heap.size < W2.heap.size := World.block_lt_of_cell? _ _ hc5
      have hlt := hC.lt
      refine (h.part [.tf (tyS x.t) (tyS x.u), tyS x.t] _ (fun t ht => by
        simp at ht
        rcases ht with rfl | rfl | ht
        · exact (good_enc hg.1).2
        · exact hg.2.2
        · exact hE t ht) hen (hC.below hBa) hBd).mono ?_
      intro e w4 h4
      have h4' : PtEnd B W2 cb (.slice (some ⟨nb, no, none⟩) l.length nc) bv l rb (i + 1 + (flats [a]).length) env (tyT (tyS x.t :: .tf (tyS x.t) (tyS x.u) :: env) a (i + 1)) e w4 := h4
      have hfr : Fr cb bv W2 w4 := by
        cases hR : tyT (tyS x.t :: .tf (tyS x.t) (tyS x.u) :: env) a (i + 1) with
        | error q => rw [hR] at h4'; exact h4'.2
        | ok τ => rw [hR] at h4'; obtain ⟨_, bv', _, h6⟩ := h4'; exact h6.fr
      refine ⟨?_, ?_⟩
      · cases hR : tyT (tyS x.t :: .tf (tyS x.t) (tyS x.u) :: env) a (i + 1) with
        | error q => rw [hR] at h4'; exact ⟨h4'.1, (Mv.below hBa).thenF h4'.2⟩
        | ok τ =>
          rw [hR] at h4'
          obtain ⟨h5, bv', h6, h7⟩ := h4'
          exact ⟨h5, bv', h6, (Mv.below hBa).trans h7⟩
      · rw [hfr.cell hlt2 (by omega) (fun e => by have := own_lt hC.own _ e.symm; omega)]
        exact hc5
    generalize tyT (tyS x.t :: .tf (tyS x.t) (tyS x.u) :: env) a (i + 1) = R at *
    generalize (flats [a]).length = m at *
    cases R with
    | error q =>
      clear hr hC h hcx hκ hN1 hux
      go_enter Try.func34, Try.ntmps34
      go_upto_region 2 with fail
      rw [← hW1]
      clear hW1 p0 p1 p2 p3 p4 p5 p6 p7 c0
      go_wp2_with fail
      refine (har _ _).mono ?_
      rintro e w2 ⟨rfl, hB2⟩
      have hPt := fun W2 n => HPt.out w2 W2 n hB2
      have k4' := (hB2.cell (p := ⟨w.heap.size, 4, none⟩) (by show w.heap.size < _; omega)).trans k4
      have k5' := (hB2.cell (p := ⟨w.heap.size, 5, none⟩) (by show w.heap.size < _; omega)).trans k5
      have hlt2 : w.heap.size < w2.heap.size := by have := hB2.size; omega
      clear har HPt k0 k1 k2 k3 k4 k5 k6 k7 hg
      go_wp2_with fail
      go_region_with (go_at_call 27; refine (hPt _ _ (by first | exact .inl rfl | exact .inr rfl) rfl).mono ?_; rintro e w4 ⟨h4, -⟩; have he := h4.1; subst he; refine (fun (_ : wpAny Try.prog .any #[] (fun _ _ _ => True) 0 #[] ⟨#[], []⟩ w4) => ⟨rfl, h4⟩) ?_)
      all_goals trivial
    | ok τ =>
      show Calls _ _ _ _ (PtEnd B w cb (.slice (some ⟨nb, no, none⟩) l.length nc) bv l rb (i + 1 + m) env (if τ = tyS x.u then .ok (.tf (tyS x.t) (tyS x.u)) else .error (23, i)))
      by_cases hτ : τ = tyS x.u
      · rw [if_pos hτ]
        subst hτ
        have hS : ∀ (i : Int) (w : World), Calls Try.prog 60 #[.int .i64 i, .string (S (enc (tyS x.u))), .string x.u] w fun en w' => en = .returned (.tuple #[]) ∧ w' = w := fun i w => by
          have := casks_yes (tyS x.u) i w
          rw [← hux] at this ⊢
          exact this
        have HF : Aside (∀ e w4 w5, PtEnd B w cb (.slice (some ⟨nb, no, none⟩) l.length nc) bv l rb (i + 1 + m) env (.ok (tyS x.u)) e w4 → Below w4.heap.size w4 w5 → PtEnd B w cb (.slice (some ⟨nb, no, none⟩) l.length nc) bv l rb (i + 1 + m) env (.ok (.tf (tyS x.t) (tyS x.u))) (.returned (.string (S (enc (.tf (tyS x.t) (tyS x.u)))))) w5) := fun e w4 w5 h4 hB => by
          obtain ⟨_, bv', h6, h7⟩ := h4
          exact ⟨rfl, bv', h6.below hB, h7.trans (Mv.below hB)⟩
        clear hr hC h hcx hκ hN1 hux
        go_enter Try.func34, Try.ntmps34
        go_upto_region 2 with fail
        rw [← hW1]
        clear hW1 p0 p1 p2 p3 p4 p5 p6 p7 c0
        go_wp2_with fail
        refine (har _ _).mono ?_
        rintro e w2 ⟨rfl, hB2⟩
        have hPt := fun W2 n => HPt.out w2 W2 n hB2
        have k4' := (hB2.cell (p := ⟨w.heap.size, 4, none⟩) (by show w.heap.size < _; omega)).trans k4
        have k5' := (hB2.cell (p := ⟨w.heap.size, 5, none⟩) (by show w.heap.size < _; omega)).trans k5
        have hlt2 : w.heap.size < w2.heap.size := by have := hB2.size; omega
        clear har HPt k0 k1 k2 k3 k4 k5 k6 k7 hg
        go_wp2_with fail
        go_region_with (first | (go_at_call 27; refine (hPt _ _ (by first | exact .inl rfl | exact .inr rfl) rfl).mono ?_; rintro e w4 ⟨h4, hc5⟩; have he := h4.1; subst he; have hfin := HF.out _ w4 w4 h4 (Below.refl _ _)) | (go_at_call 60; refine (hS _ _).mono ?_; rintro e w5 ⟨rfl, hw5⟩; replace hw5 := hw5.symm; subst hw5))
        all_goals
          clear hPt HF hS h4
          go_wp2_with fail
          go_ret
          exact hfin
      · rw [if_neg hτ]
        have hS : ∀ (i : Int) (w : World), Calls Try.prog 60 #[.int .i64 i, .string (S (enc τ)), .string x.u] w fun en w' => en = .panicked (thC 23 i) ∧ w' = w := fun i w => by
          have := casks_no τ (tyS x.u) hτ i w
          rw [← hux] at this
          exact this
        have HF : Aside (∀ e w4, PtEnd B w cb (.slice (some ⟨nb, no, none⟩) l.length nc) bv l rb (i + 1 + m) env (.ok τ) e w4 → PtEnd B w cb (.slice (some ⟨nb, no, none⟩) l.length nc) bv l rb (i + 1 + m) env (.error (23, i)) (.panicked (thC 23 i)) w4) := fun e w4 h4 => by
          obtain ⟨_, bv', h6, h7⟩ := h4
          exact ⟨rfl, h7.fr⟩
        clear hr hC h hcx hκ hN1 hux hτ
        go_enter Try.func34, Try.ntmps34
        go_upto_region 2 with fail
        rw [← hW1]
        clear hW1 p0 p1 p2 p3 p4 p5 p6 p7 c0
        go_wp2_with fail
        refine (har _ _).mono ?_
        rintro e w2 ⟨rfl, hB2⟩
        have hPt := fun W2 n => HPt.out w2 W2 n hB2
        have k4' := (hB2.cell (p := ⟨w.heap.size, 4, none⟩) (by show w.heap.size < _; omega)).trans k4
        have k5' := (hB2.cell (p := ⟨w.heap.size, 5, none⟩) (by show w.heap.size < _; omega)).trans k5
        have hlt2 : w.heap.size < w2.heap.size := by have := hB2.size; omega
        clear har HPt k0 k1 k2 k3 k4 k5 k6 k7 hg
        go_wp2_with fail
        go_region_with (first | (go_at_call 27; refine (hPt _ _ (by first | exact .inl rfl | exact .inr rfl) rfl).mono ?_; rintro e w4 ⟨h4, hc5⟩; have he := h4.1; subst he; have hfin := HF.out _ w4 h4) | (go_at_call 60; refine (hS _ _).mono ?_; rintro e w5 ⟨rfl, hw5⟩; replace hw5 := hw5.symm; subst hw5; refine (fun (_ : wpAny Try.prog .any #[] (fun _ _ _ => True) 0 #[] ⟨#[], []⟩ w4) => ⟨rfl, hfin⟩) ?_))
        all_goals trivial
  · rw [if_neg hg]
    have har := carrow_no x hg
    have HF : Aside (∀ w2, Below W1.heap.size W1 w2 → PtEnd B w cb (.slice (some ⟨nb, no, none⟩) l.length nc) bv l rb (i + 1 + (flats [a]).length) env (.error (arE x, i)) (.panicked (thC (arE x) i)) w2) := fun w2 hB => ⟨rfl, Fr.below (hB1.trans (hB.mono (by omega)))⟩
    clear hr hC h hcx hκ hN1 hg
    generalize (flats [a]).length = m at *
    go_enter Try.func34, Try.ntmps34
    go_upto_region 2 with fail
    rw [← hW1]
    clear hW1 p0 p1 p2 p3 p4 p5 p6 p7 c0
    go_wp2_with fail
    refine (har _ _).mono ?_
    rintro e w2 ⟨rfl, hB2⟩
    have hfin := HF.out w2 hB2
    clear har HF
    go_wp2_with fail
    exact ⟨rfl, hfin⟩
end Go.Proofs.Ytnhihajhhlilfaa
