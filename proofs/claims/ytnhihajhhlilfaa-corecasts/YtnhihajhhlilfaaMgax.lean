/- Package core: uses of two kids, choice. Package core: uses of two kids, choice. Package core: uses of two kids, choice. -/
import Derived.Test.YtnhihajhhlilfaaMgau
namespace Go.Proofs.Ytnhihajhhlilfaa
open Go.RowKit Co
open T3.Tp (Ty enc cns)
open Tr (T flat flats)
set_option maxRecDepth 100000
set_option linter.unusedSimpArgs false
set_option linter.unusedVariables false

set_option maxHeartbeats 4000000 in
theorem kind_call {B cb : Nat} {nv : Value} {l : List Tr.Nd} {rb N : Nat} {x : Tr.Nd} {ks : List T} {i : Nat} {rest : List Tr.Nd} (h : Kn B cb nv l rb N x ks i rest) (hκ : x.kind = 7) : KindC B cb nv l rb 35 x ks i := by
  intro env bv w hE hen hC
  have hks := h.kidN (n := 2) (by rw [hκ]; decide) (by omega)
  have hPs := parts_any B cb nv l rb N h.hl h.hP x ks i rest env bv w h.hx h.hk h.hw h.hN h.hd hE hen hC
  have hlen := fun ts h => tyL_len ks env (i + 1) ts hE h
  have hlt := fun ts h => tyL_lenth (env := env) ks (i + 1) ts h
  have hr : tyT env (.nd x ks) i = match tyL env ks (i + 1) with | .error q => .error q | .ok ts => rul env x i ts := tyT_plain (by omega)
  rw [hr]
  generalize tyL env ks (i + 1) = R at *
  clear hr hC
  generalize (flats ks).length = m at *
  cases R with
  | error q =>
    have HF : Aside (∀ e w3, PsEnd B w cb nv bv l rb (i + 1 + m) env (.error q) e w3 → e = .panicked (thC q.1 q.2) ∧ PtEnd B w cb nv bv l rb (i + 1 + m) env (.error q) e w3) := fun e w3 h => ⟨h.1, h⟩
    clear h hlen hlt hks
    go_enter Try.func35, Try.ntmps35
    go_wp2_with fail
    refine hPs.mono ?_
    intro e w3 h3
    obtain ⟨rfl, h4⟩ := HF.out e w3 h3
    clear hPs HF h3
    go_wp2_with fail
    exact ⟨rfl, h4⟩
  | ok ts =>
    have h64 := hlen ts rfl
    have hl2 := hlt ts rfl
    obtain ⟨t, a, rfl⟩ : ∃ t a, ts = [t, a] := by
      match ts, (show ts.length = 2 by omega) with
      | [t, a], _ => exact ⟨t, a, rfl⟩
    show Calls _ _ _ _ (PtEnd B w cb nv bv l rb (i + 1 + m) env (rul env x i [t, a]))
    clear hlen hlt hl2 hks
    have hru : rul env x i [t, a] = match t with | .tf A C => if a = A then .ok C else .error (23, i) | _ => .error (23, i) := by
      unfold rul
      simp only [hκ]
      cases t <;> simp
    have h64t := h64 t (by simp)
    have HFN : Aside (∀ w3 w4 bv', Mv cb w bv w3 bv' → Below w3.heap.size w3 w4 → PtEnd B w cb nv bv l rb (i + 1 + m) env (.error (23, i)) (.panicked (thC 23 i)) w4) := fun w3 w4 bv' h2 h3 => ⟨rfl, h2.thenF (Fr.below h3)⟩
    have HFN : Aside (∀ {w3 : World} (w4 : World) (bv' : Value), Mv cb w bv w3 bv' → Below w3.heap.size w3 w4 → PtEnd B w cb nv bv l rb (i + 1 + m) env (.error (23, i)) (.panicked (thC 23 i)) w4) := fun {w3} w4 bv' h2 h3 => HFN.out w3 w4 bv' h2 h3
    by_cases hh : ∃ A C : Ty, t = .tf A C
    · obtain ⟨A, C, rfl⟩ := hh
      have hap := capart_yes (.tf A C) h64t 62 rfl
      rw [hru]
      show Calls _ _ _ _ (PtEnd B w cb nv bv l rb (i + 1 + m) env (if a = A then .ok C else .error (23, i)))
      clear hru h h64
      by_cases he : a = A
      · subst he
        rw [if_pos rfl]
        have hyes := casks_yes a
        have HF : Aside (∀ w3 w4 bv', Cs B w3 cb nv bv' l rb (i + 1 + m) env → Mv cb w bv w3 bv' → Below w3.heap.size w3 w4 → PtEnd B w cb nv bv l rb (i + 1 + m) env (.ok C) (.returned (.string (S (enc C)))) w4) := fun w3 w4 bv' h1 h2 h3 => ⟨rfl, bv', h1.below h3, h2.trans (Mv.below h3)⟩
        clear HFN h64t
        go_enter Try.func35, Try.ntmps35
        go_wp2_with fail
        refine hPs.mono ?_
        rintro e w3 ⟨v, bv', rfl, hT, hC3, hM3⟩
        clear hPs
        obtain ⟨va, vc, rfl⟩ := texts_len hT
        obtain ⟨kb, ko, rfl, hkc, hkb, k0⟩ := texts_at (k := 0) hT rfl
        obtain ⟨kb', ko', hke, -, -, k1⟩ := texts_at (k := 1) hT rfl
        obtain ⟨rfl, rfl⟩ : kb = kb' ∧ ko = ko' := by simpa using hke
        rw [Nat.add_zero] at k0
        simp only [List.length_cons, List.length_nil, List.length_map] at hkc
        go_wp2_with fail
        refine (hap _ _).mono ?_
        rintro e w4 ⟨v2, rfl, hT2, hB4⟩
        have hT2' : T3.IsTexts w4 v2 ([a, C].map enc) := hT2
        obtain ⟨va2, vc2, rfl⟩ := texts_len hT2'
        obtain ⟨fb, fo, rfl, hfc, hfb, f0⟩ := texts_at (k := 0) hT2' rfl
        obtain ⟨fb', fo', hfe, -, -, f1⟩ := texts_at (k := 1) hT2' rfl
        obtain ⟨rfl, rfl⟩ : fb = fb' ∧ fo = fo' := by simpa using hfe
        rw [Nat.add_zero] at f0
        simp only [List.length_cons, List.length_nil, List.length_map] at hfc
        have k1' : w4.cell? ⟨kb, ko + 1, none⟩ = some (.string (S (enc a))) := (hB4.cell (p := ⟨kb, ko + 1, none⟩) hkb).trans k1
        have hfin : ∀ W, Below w4.heap.size w4 W → _ := fun W hW => HF.out w3 W bv' hC3 hM3 (hB4.trans (hW.mono hB4.size))
        clear hap HF hC3 hM3 hT hT2 hT2' hke hfe k0 k1
        generalize S (T3.Tp.enc a) = sa at *
        generalize S (T3.Tp.enc C) = sc at *
        go_wp2_with fail
        go_region_with (go_at_call 60; refine (hyes _ _).mono ?_; rintro e w5 ⟨rfl, hw5⟩; replace hw5 := hw5.symm; subst hw5)
        all_goals
          go_wp2_with fail
          go_ret
          exact hfin _ (by first | exact below_drew (Below.refl _ _) | exact Below.refl _ _)
      · rw [if_neg he]
        have hno := casks_no a A he
        clear h64t
        go_enter Try.func35, Try.ntmps35
        go_wp2_with fail
        refine hPs.mono ?_
        rintro e w3 ⟨v, bv', rfl, hT, hC3, hM3⟩
        clear hPs
        obtain ⟨va, vc, rfl⟩ := texts_len hT
        obtain ⟨kb, ko, rfl, hkc, hkb, k0⟩ := texts_at (k := 0) hT rfl
        obtain ⟨kb', ko', hke, -, -, k1⟩ := texts_at (k := 1) hT rfl
        obtain ⟨rfl, rfl⟩ : kb = kb' ∧ ko = ko' := by simpa using hke
        rw [Nat.add_zero] at k0
        simp only [List.length_cons, List.length_nil, List.length_map] at hkc
        go_wp2_with fail
        refine (hap _ _).mono ?_
        rintro e w4 ⟨v2, rfl, hT2, hB4⟩
        have hT2' : T3.IsTexts w4 v2 ([A, C].map enc) := hT2
        obtain ⟨va2, vc2, rfl⟩ := texts_len hT2'
        obtain ⟨fb, fo, rfl, hfc, hfb, f0⟩ := texts_at (k := 0) hT2' rfl
        obtain ⟨fb', fo', hfe, -, -, f1⟩ := texts_at (k := 1) hT2' rfl
        obtain ⟨rfl, rfl⟩ : fb = fb' ∧ fo = fo' := by simpa using hfe
        rw [Nat.add_zero] at f0
        simp only [List.length_cons, List.length_nil, List.length_map] at hfc
        have k1' : w4.cell? ⟨kb, ko + 1, none⟩ = some (.string (S (enc a))) := (hB4.cell (p := ⟨kb, ko + 1, none⟩) hkb).trans k1
        clear hap hT hT2 hT2' hke hfe k0 k1 f1
        go_wp2_with fail
        go_region_with (go_at_call 60; refine (hno _ _).mono ?_; rintro e w5 ⟨rfl, hw5⟩; replace hw5 := hw5.symm; subst hw5; refine (fun (_ : wpAny Try.prog .any #[] (fun _ _ _ => True) 0 #[] ⟨#[], []⟩ w4) => ⟨rfl, HFN.out _ bv' hM3 (by first | exact below_drew hB4 | exact hB4)⟩) ?_)
        all_goals trivial
    · have hne : ((T3.Tp.hd t).toNat : Int) ≠ 62 := by
        intro e
        cases t <;> simp [T3.Tp.hd] at e
        exact hh ⟨_, _, rfl⟩
      have hap := capart_no t h64t 62 hne
      have hru2 : rul env x i [t, a] = .error (23, i) := by
        rw [hru]
        cases t <;> first | rfl | (exfalso; exact hh ⟨_, _, rfl⟩)
      rw [hru2]
      clear h hru h64 h64t hh hne hru2
      go_enter Try.func35, Try.ntmps35
      go_wp2_with fail
      refine hPs.mono ?_
      rintro e w3 ⟨v, bv', rfl, hT, hC3, hM3⟩
      clear hPs
      obtain ⟨va, vc, rfl⟩ := texts_len hT
      obtain ⟨kb, ko, rfl, hkc, hkb, k0⟩ := texts_at (k := 0) hT rfl
      obtain ⟨kb', ko', hke, -, -, k1⟩ := texts_at (k := 1) hT rfl
      obtain ⟨rfl, rfl⟩ : kb = kb' ∧ ko = ko' := by simpa using hke
      rw [Nat.add_zero] at k0
      simp only [List.length_cons, List.length_nil, List.length_map] at hkc
      clear hT hke
      have hfin := HFN.out w3 bv' hM3 (Below.refl _ _)
      clear hC3 hM3 HFN
      go_wp2_with fail
      refine (hap _ _).mono ?_
      rintro e w4 ⟨rfl, hw4⟩
      replace hw4 := hw4.symm
      subst hw4
      clear hap
      go_wp2_with fail
      exact ⟨rfl, hfin⟩

end Go.Proofs.Ytnhihajhhlilfaa
namespace Go.Proofs.Ytnhihajhhlilfaa
open Go.RowKit Co
open T3.Tp (Ty enc cns)
open Tr (T flat flats)
set_option maxRecDepth 100000
set_option linter.unusedSimpArgs false
set_option linter.unusedVariables false

set_option maxHeartbeats 4000000 in
theorem kind_cons {B cb : Nat} {nv : Value} {l : List Tr.Nd} {rb N : Nat} {x : Tr.Nd} {ks : List T} {i : Nat} {rest : List Tr.Nd} (h : Kn B cb nv l rb N x ks i rest) (hκ : x.kind = 25) : KindC B cb nv l rb 49 x ks i := by
  intro env bv w hE hen hC
  have hks := h.kidN (n := 2) (by rw [hκ]; decide) (by omega)
  have hPs := parts_any B cb nv l rb N h.hl h.hP x ks i rest env bv w h.hx h.hk h.hw h.hN h.hd hE hen hC
  have hlen := fun ts h => tyL_len ks env (i + 1) ts hE h
  have hlt := fun ts h => tyL_lenth (env := env) ks (i + 1) ts h
  have hr : tyT env (.nd x ks) i = match tyL env ks (i + 1) with | .error q => .error q | .ok ts => rul env x i ts := tyT_plain (by omega)
  rw [hr]
  generalize tyL env ks (i + 1) = R at *
  clear hr hC
  generalize (flats ks).length = m at *
  cases R with
  | error q =>
    have HF : Aside (∀ e w3, PsEnd B w cb nv bv l rb (i + 1 + m) env (.error q) e w3 → e = .panicked (thC q.1 q.2) ∧ PtEnd B w cb nv bv l rb (i + 1 + m) env (.error q) e w3) := fun e w3 h => ⟨h.1, h⟩
    clear h hlen hlt hks
    go_enter Try.func49, Try.ntmps49
    go_wp2_with fail
    refine hPs.mono ?_
    intro e w3 h3
    obtain ⟨rfl, h4⟩ := HF.out e w3 h3
    clear hPs HF h3
    go_wp2_with fail
    exact ⟨rfl, h4⟩
  | ok ts =>
    have h64 := hlen ts rfl
    have hl2 := hlt ts rfl
    obtain ⟨a, t, rfl⟩ : ∃ a t, ts = [a, t] := by
      match ts, (show ts.length = 2 by omega) with
      | [a, t], _ => exact ⟨a, t, rfl⟩
    show Calls _ _ _ _ (PtEnd B w cb nv bv l rb (i + 1 + m) env (rul env x i [a, t]))
    clear hlen hlt hl2 hks
    have hru : rul env x i [a, t] = match t with | .tl A => if a = A then .ok (.tl A) else .error (23, i) | _ => .error (23, i) := by
      unfold rul
      simp only [hκ]
      cases t <;> simp
    have h64t := h64 t (by simp)
    have HFN : Aside (∀ w3 w4 bv', Mv cb w bv w3 bv' → Below w3.heap.size w3 w4 → PtEnd B w cb nv bv l rb (i + 1 + m) env (.error (23, i)) (.panicked (thC 23 i)) w4) := fun w3 w4 bv' h2 h3 => ⟨rfl, h2.thenF (Fr.below h3)⟩
    have HFN : Aside (∀ {w3 : World} (w4 : World) (bv' : Value), Mv cb w bv w3 bv' → Below w3.heap.size w3 w4 → PtEnd B w cb nv bv l rb (i + 1 + m) env (.error (23, i)) (.panicked (thC 23 i)) w4) := fun {w3} w4 bv' h2 h3 => HFN.out w3 w4 bv' h2 h3
    by_cases hh : ∃ A : Ty, t = .tl A
    · obtain ⟨A, rfl⟩ := hh
      have hap := capart_yes (.tl A) h64t 108 rfl
      rw [hru]
      show Calls _ _ _ _ (PtEnd B w cb nv bv l rb (i + 1 + m) env (if a = A then .ok (.tl A) else .error (23, i)))
      clear hru h h64
      by_cases he : a = A
      · subst he
        rw [if_pos rfl]
        have hyes := casks_yes a
        have HF : Aside (∀ w3 w4 bv', Cs B w3 cb nv bv' l rb (i + 1 + m) env → Mv cb w bv w3 bv' → Below w3.heap.size w3 w4 → PtEnd B w cb nv bv l rb (i + 1 + m) env (.ok (.tl a)) (.returned (.string (S (enc (.tl a))))) w4) := fun w3 w4 bv' h1 h2 h3 => ⟨rfl, bv', h1.below h3, h2.trans (Mv.below h3)⟩
        clear HFN h64t
        go_enter Try.func49, Try.ntmps49
        go_wp2_with fail
        refine hPs.mono ?_
        rintro e w3 ⟨v, bv', rfl, hT, hC3, hM3⟩
        clear hPs
        obtain ⟨va, vc, rfl⟩ := texts_len hT
        obtain ⟨kb, ko, rfl, hkc, hkb, k0⟩ := texts_at (k := 0) hT rfl
        obtain ⟨kb', ko', hke, -, -, k1⟩ := texts_at (k := 1) hT rfl
        obtain ⟨rfl, rfl⟩ : kb = kb' ∧ ko = ko' := by simpa using hke
        rw [Nat.add_zero] at k0
        simp only [List.length_cons, List.length_nil, List.length_map] at hkc
        clear hT hke
        go_wp2_with fail
        go_region_with (first | (go_at_call 62; refine (hap _ _).mono ?_; rintro e w4 ⟨v2, rfl, hT2, hB4⟩; have hT2' : T3.IsTexts w4 v2 ([a].map enc) := hT2; obtain ⟨va2, vc2, rfl⟩ := texts_len hT2'; obtain ⟨fb, fo, rfl, hfc, hfb, f0⟩ := texts_at (k := 0) hT2' rfl; rw [Nat.add_zero] at f0; simp only [List.length_cons, List.length_nil, List.length_map] at hfc; have k0' := (hB4.cell (p := ⟨kb, ko, none⟩) hkb).trans k0; have k1' := (hB4.cell (p := ⟨kb, ko + 1, none⟩) hkb).trans k1) | (go_at_call 60; refine (hyes _ _).mono ?_; rintro e w5 ⟨rfl, hw5⟩; replace hw5 := hw5.symm; subst hw5))
        all_goals
          have hfin := HF.out w3 w4 bv' hC3 hM3 (by first | exact hB4 | exact below_drewP hB4)
          clear HF hap hyes hT2 hT2' hC3 hM3
          go_wp2_with fail
          go_ret
          exact hfin
      · rw [if_neg he]
        have hno := casks_no a A he
        clear h64t
        go_enter Try.func49, Try.ntmps49
        go_wp2_with fail
        refine hPs.mono ?_
        rintro e w3 ⟨v, bv', rfl, hT, hC3, hM3⟩
        clear hPs
        obtain ⟨va, vc, rfl⟩ := texts_len hT
        obtain ⟨kb, ko, rfl, hkc, hkb, k0⟩ := texts_at (k := 0) hT rfl
        obtain ⟨kb', ko', hke, -, -, k1⟩ := texts_at (k := 1) hT rfl
        obtain ⟨rfl, rfl⟩ : kb = kb' ∧ ko = ko' := by simpa using hke
        rw [Nat.add_zero] at k0
        simp only [List.length_cons, List.length_nil, List.length_map] at hkc
        clear hT hke
        go_wp2_with fail
        go_region_with (first | (go_at_call 62; refine (hap _ _).mono ?_; rintro e w4 ⟨v2, rfl, hT2, hB4⟩; have hT2' : T3.IsTexts w4 v2 ([A].map enc) := hT2; obtain ⟨va2, vc2, rfl⟩ := texts_len hT2'; obtain ⟨fb, fo, rfl, hfc, hfb, f0⟩ := texts_at (k := 0) hT2' rfl; rw [Nat.add_zero] at f0; simp only [List.length_cons, List.length_nil, List.length_map] at hfc; have k0' := (hB4.cell (p := ⟨kb, ko, none⟩) hkb).trans k0; have k1' := (hB4.cell (p := ⟨kb, ko + 1, none⟩) hkb).trans k1) | (go_at_call 60; refine (hno _ _).mono ?_; rintro e w5 ⟨rfl, hw5⟩; replace hw5 := hw5.symm; subst hw5; refine (fun (_ : wpAny Try.prog .any #[] (fun _ _ _ => True) 0 #[] ⟨#[], []⟩ w4) => ⟨rfl, HFN.out _ bv' hM3 (by first | exact hB4 | exact below_drewP hB4)⟩) ?_))
        all_goals trivial
    · have hne : ((T3.Tp.hd t).toNat : Int) ≠ 108 := by
        intro e
        cases t <;> simp [T3.Tp.hd] at e
        exact hh ⟨_, rfl⟩
      have hap := capart_no t h64t 108 hne
      have hru2 : rul env x i [a, t] = .error (23, i) := by
        rw [hru]
        cases t <;> first | rfl | (exfalso; exact hh ⟨_, rfl⟩)
      rw [hru2]
      clear h hru h64 h64t hh hne hru2
      go_enter Try.func49, Try.ntmps49
      go_wp2_with fail
      refine hPs.mono ?_
      rintro e w3 ⟨v, bv', rfl, hT, hC3, hM3⟩
      clear hPs
      obtain ⟨va, vc, rfl⟩ := texts_len hT
      obtain ⟨kb, ko, rfl, hkc, hkb, k0⟩ := texts_at (k := 0) hT rfl
      obtain ⟨kb', ko', hke, -, -, k1⟩ := texts_at (k := 1) hT rfl
      obtain ⟨rfl, rfl⟩ : kb = kb' ∧ ko = ko' := by simpa using hke
      rw [Nat.add_zero] at k0
      simp only [List.length_cons, List.length_nil, List.length_map] at hkc
      clear hT hke
      go_wp2_with fail
      go_region_with (go_at_call 62; refine (hap _ _).mono ?_; rintro e w4 ⟨rfl, hw4⟩; replace hw4 := hw4.symm; subst hw4; refine (fun (_ : wpAny Try.prog .any #[] (fun _ _ _ => True) 0 #[] ⟨#[], []⟩ w3) => ⟨rfl, HFN.out _ bv' hM3 (by first | exact below_drew (Below.refl _ _) | exact Below.refl _ _)⟩) ?_)
      all_goals trivial

end Go.Proofs.Ytnhihajhhlilfaa
namespace Go.Proofs.Ytnhihajhhlilfaa
open Go.RowKit Co
open T3.Tp (Ty enc cns)
open Tr (T flat flats)
set_option maxRecDepth 100000
set_option linter.unusedSimpArgs false
set_option linter.unusedVariables false

set_option maxHeartbeats 4000000 in
theorem kind_set {B cb : Nat} {nv : Value} {l : List Tr.Nd} {rb N : Nat} {x : Tr.Nd} {ks : List T} {i : Nat} {rest : List Tr.Nd} (h : Kn B cb nv l rb N x ks i rest) (hκ : x.kind = 28) : KindC B cb nv l rb 52 x ks i := by
  intro env bv w hE hen hC
  have hks := h.kidN (n := 2) (by rw [hκ]; decide) (by omega)
  have hPs := parts_any B cb nv l rb N h.hl h.hP x ks i rest env bv w h.hx h.hk h.hw h.hN h.hd hE hen hC
  have hlen := fun ts h => tyL_len ks env (i + 1) ts hE h
  have hlt := fun ts h => tyL_lenth (env := env) ks (i + 1) ts h
  have hr : tyT env (.nd x ks) i = match tyL env ks (i + 1) with | .error q => .error q | .ok ts => rul env x i ts := tyT_plain (by omega)
  rw [hr]
  generalize tyL env ks (i + 1) = R at *
  clear hr hC
  generalize (flats ks).length = m at *
  cases R with
  | error q =>
    have HF : Aside (∀ e w3, PsEnd B w cb nv bv l rb (i + 1 + m) env (.error q) e w3 → e = .panicked (thC q.1 q.2) ∧ PtEnd B w cb nv bv l rb (i + 1 + m) env (.error q) e w3) := fun e w3 h => ⟨h.1, h⟩
    clear h hlen hlt hks
    go_enter Try.func52, Try.ntmps52
    go_wp2_with fail
    refine hPs.mono ?_
    intro e w3 h3
    obtain ⟨rfl, h4⟩ := HF.out e w3 h3
    clear hPs HF h3
    go_wp2_with fail
    exact ⟨rfl, h4⟩
  | ok ts =>
    have h64 := hlen ts rfl
    have hl2 := hlt ts rfl
    obtain ⟨t, a, rfl⟩ : ∃ t a, ts = [t, a] := by
      match ts, (show ts.length = 2 by omega) with
      | [t, a], _ => exact ⟨t, a, rfl⟩
    show Calls _ _ _ _ (PtEnd B w cb nv bv l rb (i + 1 + m) env (rul env x i [t, a]))
    clear hlen hlt hl2 hks
    have hru : rul env x i [t, a] = match t with | .tx A => if a = A then .ok a else .error (23, i) | _ => .error (23, i) := by
      unfold rul
      simp only [hκ]
      cases t <;> simp
    have h64t := h64 t (by simp)
    have HFN : Aside (∀ w3 w4 bv', Mv cb w bv w3 bv' → Below w3.heap.size w3 w4 → PtEnd B w cb nv bv l rb (i + 1 + m) env (.error (23, i)) (.panicked (thC 23 i)) w4) := fun w3 w4 bv' h2 h3 => ⟨rfl, h2.thenF (Fr.below h3)⟩
    have HFN : Aside (∀ {w3 : World} (w4 : World) (bv' : Value), Mv cb w bv w3 bv' → Below w3.heap.size w3 w4 → PtEnd B w cb nv bv l rb (i + 1 + m) env (.error (23, i)) (.panicked (thC 23 i)) w4) := fun {w3} w4 bv' h2 h3 => HFN.out w3 w4 bv' h2 h3
    by_cases hh : ∃ A : Ty, t = .tx A
    · obtain ⟨A, rfl⟩ := hh
      have hap := capart_yes (.tx A) h64t 120 rfl
      rw [hru]
      show Calls _ _ _ _ (PtEnd B w cb nv bv l rb (i + 1 + m) env (if a = A then .ok a else .error (23, i)))
      clear hru h h64
      by_cases he : a = A
      · subst he
        rw [if_pos rfl]
        have hyes := casks_yes a
        have HF : Aside (∀ w3 w4 bv', Cs B w3 cb nv bv' l rb (i + 1 + m) env → Mv cb w bv w3 bv' → Below w3.heap.size w3 w4 → PtEnd B w cb nv bv l rb (i + 1 + m) env (.ok a) (.returned (.string (S (enc a)))) w4) := fun w3 w4 bv' h1 h2 h3 => ⟨rfl, bv', h1.below h3, h2.trans (Mv.below h3)⟩
        clear HFN h64t
        go_enter Try.func52, Try.ntmps52
        go_wp2_with fail
        refine hPs.mono ?_
        rintro e w3 ⟨v, bv', rfl, hT, hC3, hM3⟩
        clear hPs
        obtain ⟨va, vc, rfl⟩ := texts_len hT
        obtain ⟨kb, ko, rfl, hkc, hkb, k0⟩ := texts_at (k := 0) hT rfl
        obtain ⟨kb', ko', hke, -, -, k1⟩ := texts_at (k := 1) hT rfl
        obtain ⟨rfl, rfl⟩ : kb = kb' ∧ ko = ko' := by simpa using hke
        rw [Nat.add_zero] at k0
        simp only [List.length_cons, List.length_nil, List.length_map] at hkc
        clear hT hke
        go_wp2_with fail
        go_region_with (first | (go_at_call 62; refine (hap _ _).mono ?_; rintro e w4 ⟨v2, rfl, hT2, hB4⟩; have hT2' : T3.IsTexts w4 v2 ([a].map enc) := hT2; obtain ⟨va2, vc2, rfl⟩ := texts_len hT2'; obtain ⟨fb, fo, rfl, hfc, hfb, f0⟩ := texts_at (k := 0) hT2' rfl; rw [Nat.add_zero] at f0; simp only [List.length_cons, List.length_nil, List.length_map] at hfc; have k0' := (hB4.cell (p := ⟨kb, ko, none⟩) hkb).trans k0; have k1' := (hB4.cell (p := ⟨kb, ko + 1, none⟩) hkb).trans k1) | (go_at_call 60; refine (hyes _ _).mono ?_; rintro e w5 ⟨rfl, hw5⟩; replace hw5 := hw5.symm; subst hw5))
        all_goals
          have hfin := HF.out w3 w4 bv' hC3 hM3 (by first | exact hB4 | exact below_drewP hB4)
          clear HF hap hyes hT2 hT2' hC3 hM3
          go_wp2_with fail
          go_ret
          exact hfin
      · rw [if_neg he]
        have hno := casks_no a A he
        clear h64t
        go_enter Try.func52, Try.ntmps52
        go_wp2_with fail
        refine hPs.mono ?_
        rintro e w3 ⟨v, bv', rfl, hT, hC3, hM3⟩
        clear hPs
        obtain ⟨va, vc, rfl⟩ := texts_len hT
        obtain ⟨kb, ko, rfl, hkc, hkb, k0⟩ := texts_at (k := 0) hT rfl
        obtain ⟨kb', ko', hke, -, -, k1⟩ := texts_at (k := 1) hT rfl
        obtain ⟨rfl, rfl⟩ : kb = kb' ∧ ko = ko' := by simpa using hke
        rw [Nat.add_zero] at k0
        simp only [List.length_cons, List.length_nil, List.length_map] at hkc
        clear hT hke
        go_wp2_with fail
        go_region_with (first | (go_at_call 62; refine (hap _ _).mono ?_; rintro e w4 ⟨v2, rfl, hT2, hB4⟩; have hT2' : T3.IsTexts w4 v2 ([A].map enc) := hT2; obtain ⟨va2, vc2, rfl⟩ := texts_len hT2'; obtain ⟨fb, fo, rfl, hfc, hfb, f0⟩ := texts_at (k := 0) hT2' rfl; rw [Nat.add_zero] at f0; simp only [List.length_cons, List.length_nil, List.length_map] at hfc; have k0' := (hB4.cell (p := ⟨kb, ko, none⟩) hkb).trans k0; have k1' := (hB4.cell (p := ⟨kb, ko + 1, none⟩) hkb).trans k1) | (go_at_call 60; refine (hno _ _).mono ?_; rintro e w5 ⟨rfl, hw5⟩; replace hw5 := hw5.symm; subst hw5; refine (fun (_ : wpAny Try.prog .any #[] (fun _ _ _ => True) 0 #[] ⟨#[], []⟩ w4) => ⟨rfl, HFN.out _ bv' hM3 (by first | exact hB4 | exact below_drewP hB4)⟩) ?_))
        all_goals trivial
    · have hne : ((T3.Tp.hd t).toNat : Int) ≠ 120 := by
        intro e
        cases t <;> simp [T3.Tp.hd] at e
        exact hh ⟨_, rfl⟩
      have hap := capart_no t h64t 120 hne
      have hru2 : rul env x i [t, a] = .error (23, i) := by
        rw [hru]
        cases t <;> first | rfl | (exfalso; exact hh ⟨_, rfl⟩)
      rw [hru2]
      clear h hru h64 h64t hh hne hru2
      go_enter Try.func52, Try.ntmps52
      go_wp2_with fail
      refine hPs.mono ?_
      rintro e w3 ⟨v, bv', rfl, hT, hC3, hM3⟩
      clear hPs
      obtain ⟨va, vc, rfl⟩ := texts_len hT
      obtain ⟨kb, ko, rfl, hkc, hkb, k0⟩ := texts_at (k := 0) hT rfl
      obtain ⟨kb', ko', hke, -, -, k1⟩ := texts_at (k := 1) hT rfl
      obtain ⟨rfl, rfl⟩ : kb = kb' ∧ ko = ko' := by simpa using hke
      rw [Nat.add_zero] at k0
      simp only [List.length_cons, List.length_nil, List.length_map] at hkc
      clear hT hke
      go_wp2_with fail
      go_region_with (go_at_call 62; refine (hap _ _).mono ?_; rintro e w4 ⟨rfl, hw4⟩; replace hw4 := hw4.symm; subst hw4; refine (fun (_ : wpAny Try.prog .any #[] (fun _ _ _ => True) 0 #[] ⟨#[], []⟩ w3) => ⟨rfl, HFN.out _ bv' hM3 (by first | exact below_drew (Below.refl _ _) | exact Below.refl _ _)⟩) ?_)
      all_goals trivial

end Go.Proofs.Ytnhihajhhlilfaa
