/- Package core: leaves. -/
import Derived.Test.YtnhihajhhlilfaaMgas
import Derived.Deep.DrawnRows
namespace Go.Proofs.Ytnhihajhhlilfaa
open Go.RowKit Co
open T3.Tp (Ty enc cns)
open Tr (T flat flats)
set_option maxRecDepth 100000
set_option linter.unusedSimpArgs false
set_option linter.unusedVariables false

theorem tyT_leaf {env : List Ty} {x : Tr.Nd} {i : Nat} (h8 : x.kind ≠ 8) : tyT env (.nd x []) i = match ahd env.length x i with | some e => .error e | none => rul env x i [] := by
  rw [tyT]
  cases ahd env.length x i with
  | some e => rfl
  | none => simp [h8, tyL]
theorem Kn.none {B cb : Nat} {nv : Value} {l : List Tr.Nd} {rb N : Nat} {x : Tr.Nd} {ks : List T} {i : Nat} {rest : List Tr.Nd} (h : Kn B cb nv l rb N x ks i rest) (ha : ary x.kind = 0) : ks = [] := by
  have := h.kidN ha (by omega)
  exact List.eq_nil_of_length_eq_zero (by omega)
theorem flats_nil (i : Nat) : i + 1 + (flats []).length = i + 1 := by simp [flats]

set_option maxHeartbeats 2000000 in
theorem kind_number {B cb : Nat} {nv : Value} {l : List Tr.Nd} {rb N : Nat} {x : Tr.Nd} {ks : List T} {i : Nat} {rest : List Tr.Nd} (h : Kn B cb nv l rb N x ks i rest) (hκ : x.kind = 1) : KindC B cb nv l rb 29 x ks i := by
  intro env bv w hE hen hC
  obtain rfl := h.none (by rw [hκ]; decide)
  have hr : tyT env (.nd x []) i = .ok .ti := by rw [tyT_leaf (by omega)]; simp [ahd, rul, hκ]
  have h4 : PtEnd B w cb nv bv l rb (i + 1 + (flats []).length) env (tyT env (.nd x []) i) (.returned (.string ⟨#[105]⟩)) w := by rw [hr, flats_nil]; exact ⟨rfl, bv, hC, Mv.refl _ _ _⟩
  clear hr hC h
  go_enter Try.func29, Try.ntmps29
  go_wp2_with fail
  go_ret
  exact h4
set_option maxHeartbeats 2000000 in
theorem kind_text {B cb : Nat} {nv : Value} {l : List Tr.Nd} {rb N : Nat} {x : Tr.Nd} {ks : List T} {i : Nat} {rest : List Tr.Nd} (h : Kn B cb nv l rb N x ks i rest) (hκ : x.kind = 2) : KindC B cb nv l rb 30 x ks i := by
  intro env bv w hE hen hC
  obtain rfl := h.none (by rw [hκ]; decide)
  obtain ⟨nb, no, nc, rfl, hlc, hnb, hnc, hcx⟩ := hC.at h.hx
  have hil : i < l.length := (List.getElem?_eq_some_iff.1 h.hx).1
  have hil' : (i : Int) < (l.length : Int) := by omega
  have hi0 : (0 : Int) ≤ (i : Int) := by omega
  have c0 := hC.nod
  have p3 : w.cell? ⟨nb, no + i * 8 + 3, none⟩ = some (.string x.s) := hcx 3 _ rfl
  have hy := cask_yes
  have hn := cask_no
  by_cases hs : x.s.size ≤ 64
  · have hs' : (x.s.size : Int) ≤ 64 := by omega
    have hr : tyT env (.nd x []) i = .ok .tt := by rw [tyT_leaf (by omega)]; simp [ahd, rul, hκ, show ¬ 64 < x.s.size by omega]
    have h4 : PtEnd B w cb (.slice (some ⟨nb, no, none⟩) l.length nc) bv l rb (i + 1 + (flats []).length) env (tyT env (.nd x []) i) (.returned (.string ⟨#[116]⟩)) w := by rw [hr, flats_nil]; exact ⟨rfl, bv, hC, Mv.refl _ _ _⟩
    clear hr hC h hcx hκ
    go_enter Try.func30, Try.ntmps30
    go_wp2_with (go_at_call 55; refine (hy _ _ _).mono ?_; rintro e w4 ⟨rfl, hw4⟩; replace hw4 := hw4.symm; subst hw4)
    go_ret
    exact h4
  · have hs' : ¬ (x.s.size : Int) ≤ 64 := by omega
    have hr : tyT env (.nd x []) i = .error (10, i) := by rw [tyT_leaf (by omega)]; simp [ahd, rul, hκ, show 64 < x.s.size by omega]
    have h4 : PtEnd B w cb (.slice (some ⟨nb, no, none⟩) l.length nc) bv l rb (i + 1 + (flats []).length) env (tyT env (.nd x []) i) (.panicked (thC 10 i)) w := by rw [hr]; exact ⟨rfl, Fr.refl _ _ _⟩
    clear hr hC h hcx hκ
    go_enter Try.func30, Try.ntmps30
    go_wp2_with (go_at_call 55; refine (hn _ _ _).mono ?_; rintro e w4 ⟨rfl, hw4⟩; replace hw4 := hw4.symm; subst hw4)
    exact ⟨rfl, h4⟩
set_option maxHeartbeats 2000000 in
theorem kind_truth {B cb : Nat} {nv : Value} {l : List Tr.Nd} {rb N : Nat} {x : Tr.Nd} {ks : List T} {i : Nat} {rest : List Tr.Nd} (h : Kn B cb nv l rb N x ks i rest) (hκ : x.kind = 3) : KindC B cb nv l rb 31 x ks i := by
  intro env bv w hE hen hC
  obtain rfl := h.none (by rw [hκ]; decide)
  obtain ⟨nb, no, nc, rfl, hlc, hnb, hnc, hcx⟩ := hC.at h.hx
  have hil : i < l.length := (List.getElem?_eq_some_iff.1 h.hx).1
  have hil' : (i : Int) < (l.length : Int) := by omega
  have hi0 : (0 : Int) ≤ (i : Int) := by omega
  have c0 := hC.nod
  have p3 : w.cell? ⟨nb, no + i * 8 + 2, none⟩ = some (.int .i64 x.n) := hcx 2 _ rfl
  have hy := cask_yes
  have hn := cask_no
  by_cases hs : x.n = 0 ∨ x.n = 1
  · have hr : tyT env (.nd x []) i = .ok .tb := by rw [tyT_leaf (by omega)]; simp [ahd, rul, hκ, hs]
    have h4 : PtEnd B w cb (.slice (some ⟨nb, no, none⟩) l.length nc) bv l rb (i + 1 + (flats []).length) env (tyT env (.nd x []) i) (.returned (.string ⟨#[98]⟩)) w := by rw [hr, flats_nil]; exact ⟨rfl, bv, hC, Mv.refl _ _ _⟩
    clear hr hC h hcx hκ
    rcases hs with hs | hs
    · rw [hs] at p3
      go_enter Try.func31, Try.ntmps31
      go_wp2_with (go_at_call 55; refine (hy _ _ _).mono ?_; rintro e w4 ⟨rfl, hw4⟩; replace hw4 := hw4.symm; subst hw4)
      go_ret
      exact h4
    · rw [hs] at p3
      go_enter Try.func31, Try.ntmps31
      go_wp2_with (go_at_call 55; refine (hy _ _ _).mono ?_; rintro e w4 ⟨rfl, hw4⟩; replace hw4 := hw4.symm; subst hw4)
      go_ret
      exact h4
  · have h0 : (x.n == 0) = false := by simp; omega
    have h1 : (x.n == 1) = false := by simp; omega
    have hr : tyT env (.nd x []) i = .error (13, i) := by rw [tyT_leaf (by omega)]; simp [ahd, rul, hκ, hs]
    have h4 : PtEnd B w cb (.slice (some ⟨nb, no, none⟩) l.length nc) bv l rb (i + 1 + (flats []).length) env (tyT env (.nd x []) i) (.panicked (thC 13 i)) w := by rw [hr]; exact ⟨rfl, Fr.refl _ _ _⟩
    clear hr hC h hcx hκ hs
    go_enter Try.func31, Try.ntmps31
    go_wp2_with (go_at_call 55; refine (hn _ _ _).mono ?_; rintro e w4 ⟨rfl, hw4⟩; replace hw4 := hw4.symm; subst hw4)
    exact ⟨rfl, h4⟩
set_option maxHeartbeats 2000000 in
theorem kind_variable {B cb : Nat} {nv : Value} {l : List Tr.Nd} {rb N : Nat} {x : Tr.Nd} {ks : List T} {i : Nat} {rest : List Tr.Nd} (h : Kn B cb nv l rb N x ks i rest) (hκ : x.kind = 4) : KindC B cb nv l rb 32 x ks i := by
  intro env bv w hE hen hC
  obtain rfl := h.none (by rw [hκ]; decide)
  obtain ⟨nb, no, nc, rfl, hlc, hnb, hnc, hcx⟩ := hC.at h.hx
  have hil : i < l.length := (List.getElem?_eq_some_iff.1 h.hx).1
  have hil' : (i : Int) < (l.length : Int) := by omega
  have hi0 : (0 : Int) ≤ (i : Int) := by omega
  have hl1 := h.hl
  have c0 := hC.nod
  have c3 := hC.bnd
  have p3 : w.cell? ⟨nb, no + i * 8 + 2, none⟩ = some (.int .i64 x.n) := hcx 2 _ rfl
  have hy := cask_yes
  have hn := cask_no
  by_cases hs : 0 ≤ x.n ∧ x.n < (env.length : Int)
  · obtain ⟨k, hk⟩ : ∃ k : Nat, x.n = (k : Int) := ⟨x.n.toNat, by omega⟩
    have hkl : k < env.length := by omega
    obtain ⟨t, ht⟩ : ∃ t, env[k]? = some t := ⟨_, List.getElem?_eq_getElem hkl⟩
    have hr : tyT env (.nd x []) i = .ok t := by
      rw [tyT_leaf (by omega)]
      have ha : ahd env.length x i = .none := by unfold ahd; simp only [hκ]; simp [hs]
      rw [ha]
      show rul env x i [] = _
      unfold rul
      simp only [hκ]
      simp [hk, ht]
    obtain ⟨g, cap, hbv, hcap, hg, hgc⟩ := own_cells hC.own (by omega)
    obtain ⟨q, hq⟩ : ∃ q, q = env.length - 1 - k := ⟨_, rfl⟩
    have hcell : w.cell? ⟨g, q, none⟩ = some (.string (S (enc t))) := by rw [hgc q (by omega), hq]; exact ecellsC_get ht
    have h4 : ∀ n, PtEnd B w cb (.slice (some ⟨nb, no, none⟩) l.length nc) bv l rb (i + 1 + (flats []).length) env (tyT env (.nd x []) i) (.returned (.string (S (enc t)))) (w.drewN n) := fun n => by
      rw [hr, flats_nil]
      have hBd : Below w.heap.size w (w.drewN n) := below_drewN (Below.refl _ _) n
      exact ⟨rfl, bv, hC.below hBd, Mv.below hBd⟩
    subst hbv
    have hq1 : (env.length : Int) - 1 - (k : Int) = (q : Int) := by omega
    have hq2 : (q : Int) < (env.length : Int) := by omega
    have hq0 : (0 : Int) ≤ (q : Int) := by omega
    have hk0 : (0 : Int) ≤ (k : Int) := by omega
    have hkl' : (k : Int) < (env.length : Int) := by omega
    rw [hk] at p3
    have w1 : IntKind.i64.wrap ((env.length : Int) - 1) = (env.length : Int) - 1 := IntWalk.i64_in _ (by omega)
    have w2 : IntKind.i64.wrap ((env.length : Int) - 1 - (k : Int)) = (q : Int) := (IntWalk.i64_in _ (by omega)).trans hq1
    clear hr hC h hcx hκ hs hq hgc ht hk hq1
    generalize S (T3.Tp.enc t) = st at *
    go_enter Try.func32, Try.ntmps32
    go_wp2_with (go_at_call 55; refine (hy _ _ _).mono ?_; rintro e w4 ⟨rfl, hw4⟩; replace hw4 := hw4.symm; subst hw4)
    go_quiet (fail)
    go_wp2_with fail
    go_ret
    exact h4 _
  · have hr : tyT env (.nd x []) i = .error (22, i) := by
      rw [tyT_leaf (by omega)]
      have ha : ahd env.length x i = some (22, i) := by unfold ahd; simp only [hκ]; simp; omega
      rw [ha]
    have h4 : PtEnd B w cb (.slice (some ⟨nb, no, none⟩) l.length nc) bv l rb (i + 1 + (flats []).length) env (tyT env (.nd x []) i) (.panicked (thC 22 i)) w := by rw [hr]; exact ⟨rfl, Fr.refl _ _ _⟩
    obtain ⟨ba, bc, hbv⟩ := own_len hC.own
    subst hbv
    clear hr hC h hcx hκ
    by_cases h0 : 0 ≤ x.n
    · have h1 : ¬ x.n < (env.length : Int) := fun h1 => hs ⟨h0, h1⟩
      clear hs
      go_enter Try.func32, Try.ntmps32
      go_wp2_with (go_at_call 55; refine (hn _ _ _).mono ?_; rintro e w4 ⟨rfl, hw4⟩; replace hw4 := hw4.symm; subst hw4)
      exact ⟨rfl, h4⟩
    · clear hs
      go_enter Try.func32, Try.ntmps32
      go_wp2_with (go_at_call 55; refine (hn _ _ _).mono ?_; rintro e w4 ⟨rfl, hw4⟩; replace hw4 := hw4.symm; subst hw4)
      exact ⟨rfl, h4⟩
end Go.Proofs.Ytnhihajhhlilfaa
