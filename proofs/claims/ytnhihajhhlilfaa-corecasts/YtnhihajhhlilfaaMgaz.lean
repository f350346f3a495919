/- Package core: uses of one kid. -/
import Derived.Test.YtnhihajhhlilfaaMgas
namespace Go.Proofs.Ytnhihajhhlilfaa
open Go.RowKit Co
open T3.Tp (Ty enc cns)
open Tr (T flat flats)
set_option maxRecDepth 100000
set_option linter.unusedSimpArgs false
set_option linter.unusedVariables false

set_option maxHeartbeats 2000000 in
theorem kind_first {B cb : Nat} {nv : Value} {l : List Tr.Nd} {rb N : Nat} {x : Tr.Nd} {ks : List T} {i : Nat} {rest : List Tr.Nd} (h : Kn B cb nv l rb N x ks i rest) (hκ : x.kind = 19) : KindC B cb nv l rb 43 x ks i := by
  intro env bv w hE hen hC
  obtain ⟨a, rfl⟩ := h.one (by rw [hκ]; decide)
  have hPt : Calls Try.prog 27 #[.pointer (some ⟨cb, 0, none⟩), .slice none 0 0] w (PtEnd B w cb nv bv l rb (i + 1 + (flats [a]).length) env (tyT env a (i + 1))) := h.part [] (.slice none 0 0) hE hen hC (.inl ⟨rfl, rfl⟩)
  have hlen := fun τ => tyT_len a env (i + 1) τ hE
  have hr : tyT env (.nd x [a]) i = match tyT env a (i + 1) with | .error q => .error q | .ok t => rul env x i [t] := by
    rw [tyT_plain (by omega), tyL_one]
    cases tyT env a (i + 1) <;> rfl
  rw [hr]
  have hru : ∀ t, rul env x i [t] = match t with | .tp A C => .ok A | _ => .error (23, i) := by
    intro t
    unfold rul
    simp only [hκ]
    cases t <;> simp
  generalize tyT env a (i + 1) = R at *
  clear hr hC
  generalize (flats [a]).length = m at *
  cases R with
  | error q =>
    have HF : Aside (∀ e w3, PtEnd B w cb nv bv l rb (i + 1 + m) env (.error q) e w3 → e = .panicked (thC q.1 q.2) ∧ PtEnd B w cb nv bv l rb (i + 1 + m) env (.error q) e w3) := fun e w3 h => ⟨h.1, h⟩
    clear h hru hlen
    go_enter Try.func43, Try.ntmps43
    go_wp2_with fail
    refine hPt.mono ?_
    intro e w3 h3
    obtain ⟨rfl, h4⟩ := HF.out e w3 h3
    clear hPt HF h3
    go_wp2_with fail
    exact ⟨rfl, h4⟩
  | ok t =>
    have h64 := hlen t rfl
    show Calls _ _ _ _ (PtEnd B w cb nv bv l rb (i + 1 + m) env (rul env x i [t]))
    by_cases hh : ∃ A C : Ty, t = .tp A C
    · obtain ⟨A, C, rfl⟩ := hh
      have hap := capart_yes (.tp A C) h64 44 rfl
      rw [hru]
      have HF : Aside (∀ w3 w4 bv', Cs B w3 cb nv bv' l rb (i + 1 + m) env → Mv cb w bv w3 bv' → Below w3.heap.size w3 w4 → PtEnd B w cb nv bv l rb (i + 1 + m) env (.ok A) (.returned (.string (S (enc A)))) w4) := fun w3 w4 bv' h1 h2 h3 => ⟨rfl, bv', h1.below h3, h2.trans (Mv.below h3)⟩
      clear h hru hlen h64
      go_enter Try.func43, Try.ntmps43
      go_wp2_with fail
      refine hPt.mono ?_
      rintro e w3 ⟨rfl, bv', hC3, hM3⟩
      clear hPt
      go_wp2_with fail
      refine (hap _ _).mono ?_
      rintro e w4 ⟨v, rfl, hT, hB4⟩
      have hfin := HF.out w3 w4 bv' hC3 hM3 hB4
      clear hap HF hC3 hM3 hB4
      have hT' : T3.IsTexts w4 v ([A, C].map enc) := hT
      obtain ⟨va, vc, rfl⟩ := texts_len hT'
      obtain ⟨b, o, rfl, hc1, hb, hcell⟩ := texts_at (k := 0) (t := A) hT' rfl
      simp only [List.length_cons, List.length_nil] at hc1
      try rw [Nat.add_zero] at hcell
      clear hT hT'
      generalize S (T3.Tp.enc A) = sA at *
      go_wp2_with fail
      go_ret
      exact hfin
    · have hne : ((T3.Tp.hd t).toNat : Int) ≠ 44 := by
        intro e
        cases t <;> simp [T3.Tp.hd] at e
        exact hh ⟨_, _, rfl⟩
      have hap := capart_no t h64 44 hne
      have hru2 : rul env x i [t] = .error (23, i) := by
        rw [hru]
        cases t <;> first | rfl | (exfalso; exact hh ⟨_, _, rfl⟩)
      rw [hru2]
      have HF : Aside (∀ w3 bv', Mv cb w bv w3 bv' → PtEnd B w cb nv bv l rb (i + 1 + m) env (.error (23, i)) (.panicked (thC 23 i)) w3) := fun w3 bv' h2 => ⟨rfl, h2.fr⟩
      clear h hru hlen h64 hh hne hru2
      go_enter Try.func43, Try.ntmps43
      go_wp2_with fail
      refine hPt.mono ?_
      rintro e w3 ⟨rfl, bv', hC3, hM3⟩
      have hfin := HF.out w3 bv' hM3
      clear hPt hC3 hM3 HF
      go_wp2_with fail
      refine (hap _ _).mono ?_
      rintro e w4 ⟨rfl, hw4⟩
      replace hw4 := hw4.symm
      subst hw4
      clear hap
      go_wp2_with fail
      exact ⟨rfl, hfin⟩

set_option maxHeartbeats 2000000 in
theorem kind_second {B cb : Nat} {nv : Value} {l : List Tr.Nd} {rb N : Nat} {x : Tr.Nd} {ks : List T} {i : Nat} {rest : List Tr.Nd} (h : Kn B cb nv l rb N x ks i rest) (hκ : x.kind = 20) : KindC B cb nv l rb 44 x ks i := by
  intro env bv w hE hen hC
  obtain ⟨a, rfl⟩ := h.one (by rw [hκ]; decide)
  have hPt : Calls Try.prog 27 #[.pointer (some ⟨cb, 0, none⟩), .slice none 0 0] w (PtEnd B w cb nv bv l rb (i + 1 + (flats [a]).length) env (tyT env a (i + 1))) := h.part [] (.slice none 0 0) hE hen hC (.inl ⟨rfl, rfl⟩)
  have hlen := fun τ => tyT_len a env (i + 1) τ hE
  have hr : tyT env (.nd x [a]) i = match tyT env a (i + 1) with | .error q => .error q | .ok t => rul env x i [t] := by
    rw [tyT_plain (by omega), tyL_one]
    cases tyT env a (i + 1) <;> rfl
  rw [hr]
  have hru : ∀ t, rul env x i [t] = match t with | .tp C A => .ok A | _ => .error (23, i) := by
    intro t
    unfold rul
    simp only [hκ]
    cases t <;> simp
  generalize tyT env a (i + 1) = R at *
  clear hr hC
  generalize (flats [a]).length = m at *
  cases R with
  | error q =>
    have HF : Aside (∀ e w3, PtEnd B w cb nv bv l rb (i + 1 + m) env (.error q) e w3 → e = .panicked (thC q.1 q.2) ∧ PtEnd B w cb nv bv l rb (i + 1 + m) env (.error q) e w3) := fun e w3 h => ⟨h.1, h⟩
    clear h hru hlen
    go_enter Try.func44, Try.ntmps44
    go_wp2_with fail
    refine hPt.mono ?_
    intro e w3 h3
    obtain ⟨rfl, h4⟩ := HF.out e w3 h3
    clear hPt HF h3
    go_wp2_with fail
    exact ⟨rfl, h4⟩
  | ok t =>
    have h64 := hlen t rfl
    show Calls _ _ _ _ (PtEnd B w cb nv bv l rb (i + 1 + m) env (rul env x i [t]))
    by_cases hh : ∃ A C : Ty, t = .tp C A
    · obtain ⟨A, C, rfl⟩ := hh
      have hap := capart_yes (.tp C A) h64 44 rfl
      rw [hru]
      have HF : Aside (∀ w3 w4 bv', Cs B w3 cb nv bv' l rb (i + 1 + m) env → Mv cb w bv w3 bv' → Below w3.heap.size w3 w4 → PtEnd B w cb nv bv l rb (i + 1 + m) env (.ok A) (.returned (.string (S (enc A)))) w4) := fun w3 w4 bv' h1 h2 h3 => ⟨rfl, bv', h1.below h3, h2.trans (Mv.below h3)⟩
      clear h hru hlen h64
      go_enter Try.func44, Try.ntmps44
      go_wp2_with fail
      refine hPt.mono ?_
      rintro e w3 ⟨rfl, bv', hC3, hM3⟩
      clear hPt
      go_wp2_with fail
      refine (hap _ _).mono ?_
      rintro e w4 ⟨v, rfl, hT, hB4⟩
      have hfin := HF.out w3 w4 bv' hC3 hM3 hB4
      clear hap HF hC3 hM3 hB4
      have hT' : T3.IsTexts w4 v ([C, A].map enc) := hT
      obtain ⟨va, vc, rfl⟩ := texts_len hT'
      obtain ⟨b, o, rfl, hc1, hb, hcell⟩ := texts_at (k := 1) (t := A) hT' rfl
      simp only [List.length_cons, List.length_nil] at hc1
      try rw [Nat.add_zero] at hcell
      clear hT hT'
      generalize S (T3.Tp.enc A) = sA at *
      go_wp2_with fail
      go_ret
      exact hfin
    · have hne : ((T3.Tp.hd t).toNat : Int) ≠ 44 := by
        intro e
        cases t <;> simp [T3.Tp.hd] at e
        exact hh ⟨_, _, rfl⟩
      have hap := capart_no t h64 44 hne
      have hru2 : rul env x i [t] = .error (23, i) := by
        rw [hru]
        cases t <;> first | rfl | (exfalso; exact hh ⟨_, _, rfl⟩)
      rw [hru2]
      have HF : Aside (∀ w3 bv', Mv cb w bv w3 bv' → PtEnd B w cb nv bv l rb (i + 1 + m) env (.error (23, i)) (.panicked (thC 23 i)) w3) := fun w3 bv' h2 => ⟨rfl, h2.fr⟩
      clear h hru hlen h64 hh hne hru2
      go_enter Try.func44, Try.ntmps44
      go_wp2_with fail
      refine hPt.mono ?_
      rintro e w3 ⟨rfl, bv', hC3, hM3⟩
      have hfin := HF.out w3 bv' hM3
      clear hPt hC3 hM3 HF
      go_wp2_with fail
      refine (hap _ _).mono ?_
      rintro e w4 ⟨rfl, hw4⟩
      replace hw4 := hw4.symm
      subst hw4
      clear hap
      go_wp2_with fail
      exact ⟨rfl, hfin⟩

set_option maxHeartbeats 2000000 in
theorem kind_head {B cb : Nat} {nv : Value} {l : List Tr.Nd} {rb N : Nat} {x : Tr.Nd} {ks : List T} {i : Nat} {rest : List Tr.Nd} (h : Kn B cb nv l rb N x ks i rest) (hκ : x.kind = 22) : KindC B cb nv l rb 46 x ks i := by
  intro env bv w hE hen hC
  obtain ⟨a, rfl⟩ := h.one (by rw [hκ]; decide)
  have hPt : Calls Try.prog 27 #[.pointer (some ⟨cb, 0, none⟩), .slice none 0 0] w (PtEnd B w cb nv bv l rb (i + 1 + (flats [a]).length) env (tyT env a (i + 1))) := h.part [] (.slice none 0 0) hE hen hC (.inl ⟨rfl, rfl⟩)
  have hlen := fun τ => tyT_len a env (i + 1) τ hE
  have hr : tyT env (.nd x [a]) i = match tyT env a (i + 1) with | .error q => .error q | .ok t => rul env x i [t] := by
    rw [tyT_plain (by omega), tyL_one]
    cases tyT env a (i + 1) <;> rfl
  rw [hr]
  have hru : ∀ t, rul env x i [t] = match t with | .tl A => .ok A | _ => .error (23, i) := by
    intro t
    unfold rul
    simp only [hκ]
    cases t <;> simp
  generalize tyT env a (i + 1) = R at *
  clear hr hC
  generalize (flats [a]).length = m at *
  cases R with
  | error q =>
    have HF : Aside (∀ e w3, PtEnd B w cb nv bv l rb (i + 1 + m) env (.error q) e w3 → e = .panicked (thC q.1 q.2) ∧ PtEnd B w cb nv bv l rb (i + 1 + m) env (.error q) e w3) := fun e w3 h => ⟨h.1, h⟩
    clear h hru hlen
    go_enter Try.func46, Try.ntmps46
    go_wp2_with fail
    refine hPt.mono ?_
    intro e w3 h3
    obtain ⟨rfl, h4⟩ := HF.out e w3 h3
    clear hPt HF h3
    go_wp2_with fail
    exact ⟨rfl, h4⟩
  | ok t =>
    have h64 := hlen t rfl
    show Calls _ _ _ _ (PtEnd B w cb nv bv l rb (i + 1 + m) env (rul env x i [t]))
    by_cases hh : ∃ A : Ty, t = .tl A
    · obtain ⟨A, rfl⟩ := hh
      have hap := capart_yes (.tl A) h64 108 rfl
      rw [hru]
      have HF : Aside (∀ w3 w4 bv', Cs B w3 cb nv bv' l rb (i + 1 + m) env → Mv cb w bv w3 bv' → Below w3.heap.size w3 w4 → PtEnd B w cb nv bv l rb (i + 1 + m) env (.ok A) (.returned (.string (S (enc A)))) w4) := fun w3 w4 bv' h1 h2 h3 => ⟨rfl, bv', h1.below h3, h2.trans (Mv.below h3)⟩
      clear h hru hlen h64
      go_enter Try.func46, Try.ntmps46
      go_wp2_with fail
      refine hPt.mono ?_
      rintro e w3 ⟨rfl, bv', hC3, hM3⟩
      clear hPt
      go_wp2_with fail
      refine (hap _ _).mono ?_
      rintro e w4 ⟨v, rfl, hT, hB4⟩
      have hfin := HF.out w3 w4 bv' hC3 hM3 hB4
      clear hap HF hC3 hM3 hB4
      have hT' : T3.IsTexts w4 v ([A].map enc) := hT
      obtain ⟨va, vc, rfl⟩ := texts_len hT'
      obtain ⟨b, o, rfl, hc1, hb, hcell⟩ := texts_at (k := 0) (t := A) hT' rfl
      simp only [List.length_cons, List.length_nil] at hc1
      try rw [Nat.add_zero] at hcell
      clear hT hT'
      generalize S (T3.Tp.enc A) = sA at *
      go_wp2_with fail
      go_ret
      exact hfin
    · have hne : ((T3.Tp.hd t).toNat : Int) ≠ 108 := by
        intro e
        cases t <;> simp [T3.Tp.hd] at e
        exact hh ⟨_, rfl⟩
      have hap := capart_no t h64 108 hne
      have hru2 : rul env x i [t] = .error (23, i) := by
        rw [hru]
        cases t <;> first | rfl | (exfalso; exact hh ⟨_, rfl⟩)
      rw [hru2]
      have HF : Aside (∀ w3 bv', Mv cb w bv w3 bv' → PtEnd B w cb nv bv l rb (i + 1 + m) env (.error (23, i)) (.panicked (thC 23 i)) w3) := fun w3 bv' h2 => ⟨rfl, h2.fr⟩
      clear h hru hlen h64 hh hne hru2
      go_enter Try.func46, Try.ntmps46
      go_wp2_with fail
      refine hPt.mono ?_
      rintro e w3 ⟨rfl, bv', hC3, hM3⟩
      have hfin := HF.out w3 bv' hM3
      clear hPt hC3 hM3 HF
      go_wp2_with fail
      refine (hap _ _).mono ?_
      rintro e w4 ⟨rfl, hw4⟩
      replace hw4 := hw4.symm
      subst hw4
      clear hap
      go_wp2_with fail
      exact ⟨rfl, hfin⟩

set_option maxHeartbeats 2000000 in
theorem kind_tail {B cb : Nat} {nv : Value} {l : List Tr.Nd} {rb N : Nat} {x : Tr.Nd} {ks : List T} {i : Nat} {rest : List Tr.Nd} (h : Kn B cb nv l rb N x ks i rest) (hκ : x.kind = 23) : KindC B cb nv l rb 47 x ks i := by
  intro env bv w hE hen hC
  obtain ⟨a, rfl⟩ := h.one (by rw [hκ]; decide)
  have hPt : Calls Try.prog 27 #[.pointer (some ⟨cb, 0, none⟩), .slice none 0 0] w (PtEnd B w cb nv bv l rb (i + 1 + (flats [a]).length) env (tyT env a (i + 1))) := h.part [] (.slice none 0 0) hE hen hC (.inl ⟨rfl, rfl⟩)
  have hlen := fun τ => tyT_len a env (i + 1) τ hE
  have hr : tyT env (.nd x [a]) i = match tyT env a (i + 1) with | .error q => .error q | .ok t => rul env x i [t] := by
    rw [tyT_plain (by omega), tyL_one]
    cases tyT env a (i + 1) <;> rfl
  rw [hr]
  have hru : ∀ t, rul env x i [t] = match t with | .tl A => .ok (.tl A) | _ => .error (23, i) := by
    intro t
    unfold rul
    simp only [hκ]
    cases t <;> simp
  generalize tyT env a (i + 1) = R at *
  clear hr hC
  generalize (flats [a]).length = m at *
  cases R with
  | error q =>
    have HF : Aside (∀ e w3, PtEnd B w cb nv bv l rb (i + 1 + m) env (.error q) e w3 → e = .panicked (thC q.1 q.2) ∧ PtEnd B w cb nv bv l rb (i + 1 + m) env (.error q) e w3) := fun e w3 h => ⟨h.1, h⟩
    clear h hru hlen
    go_enter Try.func47, Try.ntmps47
    go_wp2_with fail
    refine hPt.mono ?_
    intro e w3 h3
    obtain ⟨rfl, h4⟩ := HF.out e w3 h3
    clear hPt HF h3
    go_wp2_with fail
    exact ⟨rfl, h4⟩
  | ok t =>
    have h64 := hlen t rfl
    show Calls _ _ _ _ (PtEnd B w cb nv bv l rb (i + 1 + m) env (rul env x i [t]))
    by_cases hh : ∃ A : Ty, t = .tl A
    · obtain ⟨A, rfl⟩ := hh
      have hap := capart_yes (.tl A) h64 108 rfl
      rw [hru]
      have HF : Aside (∀ w3 w4 bv', Cs B w3 cb nv bv' l rb (i + 1 + m) env → Mv cb w bv w3 bv' → Below w3.heap.size w3 w4 → PtEnd B w cb nv bv l rb (i + 1 + m) env (.ok (.tl A)) (.returned (.string (S (enc (.tl A))))) w4) := fun w3 w4 bv' h1 h2 h3 => ⟨rfl, bv', h1.below h3, h2.trans (Mv.below h3)⟩
      clear h hru hlen h64
      go_enter Try.func47, Try.ntmps47
      go_wp2_with fail
      refine hPt.mono ?_
      rintro e w3 ⟨rfl, bv', hC3, hM3⟩
      clear hPt
      go_wp2_with fail
      refine (hap _ _).mono ?_
      rintro e w4 ⟨v, rfl, hT, hB4⟩
      have hfin := HF.out w3 w4 bv' hC3 hM3 hB4
      clear hap HF hC3 hM3 hB4
      clear hT
      go_wp2_with fail
      go_ret
      exact hfin
    · have hne : ((T3.Tp.hd t).toNat : Int) ≠ 108 := by
        intro e
        cases t <;> simp [T3.Tp.hd] at e
        exact hh ⟨_, rfl⟩
      have hap := capart_no t h64 108 hne
      have hru2 : rul env x i [t] = .error (23, i) := by
        rw [hru]
        cases t <;> first | rfl | (exfalso; exact hh ⟨_, rfl⟩)
      rw [hru2]
      have HF : Aside (∀ w3 bv', Mv cb w bv w3 bv' → PtEnd B w cb nv bv l rb (i + 1 + m) env (.error (23, i)) (.panicked (thC 23 i)) w3) := fun w3 bv' h2 => ⟨rfl, h2.fr⟩
      clear h hru hlen h64 hh hne hru2
      go_enter Try.func47, Try.ntmps47
      go_wp2_with fail
      refine hPt.mono ?_
      rintro e w3 ⟨rfl, bv', hC3, hM3⟩
      have hfin := HF.out w3 bv' hM3
      clear hPt hC3 hM3 HF
      go_wp2_with fail
      refine (hap _ _).mono ?_
      rintro e w4 ⟨rfl, hw4⟩
      replace hw4 := hw4.symm
      subst hw4
      clear hap
      go_wp2_with fail
      exact ⟨rfl, hfin⟩

set_option maxHeartbeats 2000000 in
theorem kind_empty {B cb : Nat} {nv : Value} {l : List Tr.Nd} {rb N : Nat} {x : Tr.Nd} {ks : List T} {i : Nat} {rest : List Tr.Nd} (h : Kn B cb nv l rb N x ks i rest) (hκ : x.kind = 24) : KindC B cb nv l rb 48 x ks i := by
  intro env bv w hE hen hC
  obtain ⟨a, rfl⟩ := h.one (by rw [hκ]; decide)
  have hPt : Calls Try.prog 27 #[.pointer (some ⟨cb, 0, none⟩), .slice none 0 0] w (PtEnd B w cb nv bv l rb (i + 1 + (flats [a]).length) env (tyT env a (i + 1))) := h.part [] (.slice none 0 0) hE hen hC (.inl ⟨rfl, rfl⟩)
  have hlen := fun τ => tyT_len a env (i + 1) τ hE
  have hr : tyT env (.nd x [a]) i = match tyT env a (i + 1) with | .error q => .error q | .ok t => rul env x i [t] := by
    rw [tyT_plain (by omega), tyL_one]
    cases tyT env a (i + 1) <;> rfl
  rw [hr]
  have hru : ∀ t, rul env x i [t] = match t with | .tl A => .ok .tb | _ => .error (23, i) := by
    intro t
    unfold rul
    simp only [hκ]
    cases t <;> simp
  generalize tyT env a (i + 1) = R at *
  clear hr hC
  generalize (flats [a]).length = m at *
  cases R with
  | error q =>
    have HF : Aside (∀ e w3, PtEnd B w cb nv bv l rb (i + 1 + m) env (.error q) e w3 → e = .panicked (thC q.1 q.2) ∧ PtEnd B w cb nv bv l rb (i + 1 + m) env (.error q) e w3) := fun e w3 h => ⟨h.1, h⟩
    clear h hru hlen
    go_enter Try.func48, Try.ntmps48
    go_wp2_with fail
    refine hPt.mono ?_
    intro e w3 h3
    obtain ⟨rfl, h4⟩ := HF.out e w3 h3
    clear hPt HF h3
    go_wp2_with fail
    exact ⟨rfl, h4⟩
  | ok t =>
    have h64 := hlen t rfl
    show Calls _ _ _ _ (PtEnd B w cb nv bv l rb (i + 1 + m) env (rul env x i [t]))
    by_cases hh : ∃ A : Ty, t = .tl A
    · obtain ⟨A, rfl⟩ := hh
      have hap := capart_yes (.tl A) h64 108 rfl
      rw [hru]
      have HF : Aside (∀ w3 w4 bv', Cs B w3 cb nv bv' l rb (i + 1 + m) env → Mv cb w bv w3 bv' → Below w3.heap.size w3 w4 → PtEnd B w cb nv bv l rb (i + 1 + m) env (.ok .tb) (.returned (.string (S (enc .tb)))) w4) := fun w3 w4 bv' h1 h2 h3 => ⟨rfl, bv', h1.below h3, h2.trans (Mv.below h3)⟩
      clear h hru hlen h64
      go_enter Try.func48, Try.ntmps48
      go_wp2_with fail
      refine hPt.mono ?_
      rintro e w3 ⟨rfl, bv', hC3, hM3⟩
      clear hPt
      go_wp2_with fail
      refine (hap _ _).mono ?_
      rintro e w4 ⟨v, rfl, hT, hB4⟩
      have hfin := HF.out w3 w4 bv' hC3 hM3 hB4
      clear hap HF hC3 hM3 hB4
      clear hT
      go_wp2_with fail
      go_ret
      exact hfin
    · have hne : ((T3.Tp.hd t).toNat : Int) ≠ 108 := by
        intro e
        cases t <;> simp [T3.Tp.hd] at e
        exact hh ⟨_, rfl⟩
      have hap := capart_no t h64 108 hne
      have hru2 : rul env x i [t] = .error (23, i) := by
        rw [hru]
        cases t <;> first | rfl | (exfalso; exact hh ⟨_, rfl⟩)
      rw [hru2]
      have HF : Aside (∀ w3 bv', Mv cb w bv w3 bv' → PtEnd B w cb nv bv l rb (i + 1 + m) env (.error (23, i)) (.panicked (thC 23 i)) w3) := fun w3 bv' h2 => ⟨rfl, h2.fr⟩
      clear h hru hlen h64 hh hne hru2
      go_enter Try.func48, Try.ntmps48
      go_wp2_with fail
      refine hPt.mono ?_
      rintro e w3 ⟨rfl, bv', hC3, hM3⟩
      have hfin := HF.out w3 bv' hM3
      clear hPt hC3 hM3 HF
      go_wp2_with fail
      refine (hap _ _).mono ?_
      rintro e w4 ⟨rfl, hw4⟩
      replace hw4 := hw4.symm
      subst hw4
      clear hap
      go_wp2_with fail
      exact ⟨rfl, hfin⟩

set_option maxHeartbeats 2000000 in
theorem kind_get {B cb : Nat} {nv : Value} {l : List Tr.Nd} {rb N : Nat} {x : Tr.Nd} {ks : List T} {i : Nat} {rest : List Tr.Nd} (h : Kn B cb nv l rb N x ks i rest) (hκ : x.kind = 27) : KindC B cb nv l rb 51 x ks i := by
  intro env bv w hE hen hC
  obtain ⟨a, rfl⟩ := h.one (by rw [hκ]; decide)
  have hPt : Calls Try.prog 27 #[.pointer (some ⟨cb, 0, none⟩), .slice none 0 0] w (PtEnd B w cb nv bv l rb (i + 1 + (flats [a]).length) env (tyT env a (i + 1))) := h.part [] (.slice none 0 0) hE hen hC (.inl ⟨rfl, rfl⟩)
  have hlen := fun τ => tyT_len a env (i + 1) τ hE
  have hr : tyT env (.nd x [a]) i = match tyT env a (i + 1) with | .error q => .error q | .ok t => rul env x i [t] := by
    rw [tyT_plain (by omega), tyL_one]
    cases tyT env a (i + 1) <;> rfl
  rw [hr]
  have hru : ∀ t, rul env x i [t] = match t with | .tx A => .ok A | _ => .error (23, i) := by
    intro t
    unfold rul
    simp only [hκ]
    cases t <;> simp
  generalize tyT env a (i + 1) = R at *
  clear hr hC
  generalize (flats [a]).length = m at *
  cases R with
  | error q =>
    have HF : Aside (∀ e w3, PtEnd B w cb nv bv l rb (i + 1 + m) env (.error q) e w3 → e = .panicked (thC q.1 q.2) ∧ PtEnd B w cb nv bv l rb (i + 1 + m) env (.error q) e w3) := fun e w3 h => ⟨h.1, h⟩
    clear h hru hlen
    go_enter Try.func51, Try.ntmps51
    go_wp2_with fail
    refine hPt.mono ?_
    intro e w3 h3
    obtain ⟨rfl, h4⟩ := HF.out e w3 h3
    clear hPt HF h3
    go_wp2_with fail
    exact ⟨rfl, h4⟩
  | ok t =>
    have h64 := hlen t rfl
    show Calls _ _ _ _ (PtEnd B w cb nv bv l rb (i + 1 + m) env (rul env x i [t]))
    by_cases hh : ∃ A : Ty, t = .tx A
    · obtain ⟨A, rfl⟩ := hh
      have hap := capart_yes (.tx A) h64 120 rfl
      rw [hru]
      have HF : Aside (∀ w3 w4 bv', Cs B w3 cb nv bv' l rb (i + 1 + m) env → Mv cb w bv w3 bv' → Below w3.heap.size w3 w4 → PtEnd B w cb nv bv l rb (i + 1 + m) env (.ok A) (.returned (.string (S (enc A)))) w4) := fun w3 w4 bv' h1 h2 h3 => ⟨rfl, bv', h1.below h3, h2.trans (Mv.below h3)⟩
      clear h hru hlen h64
      go_enter Try.func51, Try.ntmps51
      go_wp2_with fail
      refine hPt.mono ?_
      rintro e w3 ⟨rfl, bv', hC3, hM3⟩
      clear hPt
      go_wp2_with fail
      refine (hap _ _).mono ?_
      rintro e w4 ⟨v, rfl, hT, hB4⟩
      have hfin := HF.out w3 w4 bv' hC3 hM3 hB4
      clear hap HF hC3 hM3 hB4
      have hT' : T3.IsTexts w4 v ([A].map enc) := hT
      obtain ⟨va, vc, rfl⟩ := texts_len hT'
      obtain ⟨b, o, rfl, hc1, hb, hcell⟩ := texts_at (k := 0) (t := A) hT' rfl
      simp only [List.length_cons, List.length_nil] at hc1
      try rw [Nat.add_zero] at hcell
      clear hT hT'
      generalize S (T3.Tp.enc A) = sA at *
      go_wp2_with fail
      go_ret
      exact hfin
    · have hne : ((T3.Tp.hd t).toNat : Int) ≠ 120 := by
        intro e
        cases t <;> simp [T3.Tp.hd] at e
        exact hh ⟨_, rfl⟩
      have hap := capart_no t h64 120 hne
      have hru2 : rul env x i [t] = .error (23, i) := by
        rw [hru]
        cases t <;> first | rfl | (exfalso; exact hh ⟨_, rfl⟩)
      rw [hru2]
      have HF : Aside (∀ w3 bv', Mv cb w bv w3 bv' → PtEnd B w cb nv bv l rb (i + 1 + m) env (.error (23, i)) (.panicked (thC 23 i)) w3) := fun w3 bv' h2 => ⟨rfl, h2.fr⟩
      clear h hru hlen h64 hh hne hru2
      go_enter Try.func51, Try.ntmps51
      go_wp2_with fail
      refine hPt.mono ?_
      rintro e w3 ⟨rfl, bv', hC3, hM3⟩
      have hfin := HF.out w3 bv' hM3
      clear hPt hC3 hM3 HF
      go_wp2_with fail
      refine (hap _ _).mono ?_
      rintro e w4 ⟨rfl, hw4⟩
      replace hw4 := hw4.symm
      subst hw4
      clear hap
      go_wp2_with fail
      exact ⟨rfl, hfin⟩
end Go.Proofs.Ytnhihajhhlilfaa
