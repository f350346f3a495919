/- Package core: uses of two kids, choice. Package core: operations. -/
import Derived.Test.YtnhihajhhlilfaaMgau
import Derived.Test.YtnhihajhhlilfaaMgas
namespace Go.Proofs.Ytnhihajhhlilfaa
open Go.RowKit Co
open T3.Tp (Ty enc cns)
open Tr (T flat flats)
set_option maxRecDepth 100000
set_option linter.unusedSimpArgs false
set_option linter.unusedVariables false

set_option maxHeartbeats 4000000 in
theorem kind_choice {B cb : Nat} {nv : Value} {l : List Tr.Nd} {rb N : Nat} {x : Tr.Nd} {ks : List T} {i : Nat} {rest : List Tr.Nd} (h : Kn B cb nv l rb N x ks i rest) (hκ : x.kind = 9) : KindC B cb nv l rb 37 x ks i := by
  intro env bv w hE hen hC
  have hks := h.kidN (n := 3) (by rw [hκ]; decide) (by omega)
  have hPs := parts_any B cb nv l rb N h.hl h.hP x ks i rest env bv w h.hx h.hk h.hw h.hN h.hd hE hen hC
  have hlen := fun ts h => tyL_len ks env (i + 1) ts hE h
  have hlt := fun ts h => tyL_lenth (env := env) ks (i + 1) ts h
  have hr : tyT env (.nd x ks) i = match tyL env ks (i + 1) with | .error q => .error q | .ok ts => rul env x i ts := tyT_plain (by omega)
  rw [hr]
  generalize tyL env ks (i + 1) = R at *
  clear hr hC
  generalize (flats ks).length = m at *
  cases R with
  | error q =>
    have HF : Aside (∀ e w3, PsEnd B w cb nv bv l rb (i + 1 + m) env (.error q) e w3 → e = .panicked (thC q.1 q.2) ∧ PtEnd B w cb nv bv l rb (i + 1 + m) env (.error q) e w3) := fun e w3 h => ⟨h.1, h⟩
    clear h hlen hlt hks
    go_enter Try.func37, Try.ntmps37
    go_wp2_with fail
    refine hPs.mono ?_
    intro e w3 h3
    obtain ⟨rfl, h4⟩ := HF.out e w3 h3
    clear hPs HF h3
    go_wp2_with fail
    exact ⟨rfl, h4⟩
  | ok ts =>
    have h64 := hlen ts rfl
    have hl2 := hlt ts rfl
    obtain ⟨c, a, b, rfl⟩ : ∃ c a b, ts = [c, a, b] := by
      match ts, (show ts.length = 3 by omega) with
      | [c, a, b], _ => exact ⟨c, a, b, rfl⟩
    show Calls _ _ _ _ (PtEnd B w cb nv bv l rb (i + 1 + m) env (rul env x i [c, a, b]))
    clear hlen hlt hl2 hks
    have hru : rul env x i [c, a, b] = if c = .tb then (if a = b then .ok a else .error (23, i)) else .error (23, i) := by
      unfold rul
      simp [hκ]
    have HFN : Aside (∀ {w3 : World} (w4 : World) (bv' : Value), Mv cb w bv w3 bv' → Below w3.heap.size w3 w4 → PtEnd B w cb nv bv l rb (i + 1 + m) env (.error (23, i)) (.panicked (thC 23 i)) w4) := fun {w3} w4 bv' h2 h3 => ⟨rfl, h2.thenF (Fr.below h3)⟩
    rw [hru]
    clear hru h h64
    by_cases hc : c = .tb
    · subst hc
      rw [if_pos rfl]
      have hyc : ∀ (i : Int) (w : World), Calls Try.prog 60 #[.int .i64 i, .string (S (enc .tb)), .string ⟨#[98]⟩] w fun en w' => en = .returned (.tuple #[]) ∧ w' = w := casks_yes .tb
      by_cases he : a = b
      · subst he
        rw [if_pos rfl]
        have hyes := casks_yes a
        have HF : Aside (∀ w3 w4 bv', Cs B w3 cb nv bv' l rb (i + 1 + m) env → Mv cb w bv w3 bv' → Below w3.heap.size w3 w4 → PtEnd B w cb nv bv l rb (i + 1 + m) env (.ok a) (.returned (.string (S (enc a)))) w4) := fun w3 w4 bv' h1 h2 h3 => ⟨rfl, bv', h1.below h3, h2.trans (Mv.below h3)⟩
        clear HFN
        go_enter Try.func37, Try.ntmps37
        go_wp2_with fail
        refine hPs.mono ?_
        rintro e w3 ⟨v, bv', rfl, hT, hC3, hM3⟩
        clear hPs
        obtain ⟨va, vc, rfl⟩ := texts_len hT
        obtain ⟨kb, ko, rfl, hkc, hkb, k0⟩ := texts_at (k := 0) hT rfl
        obtain ⟨kb', ko', hke, -, -, k1⟩ := texts_at (k := 1) hT rfl
        obtain ⟨rfl, rfl⟩ : kb = kb' ∧ ko = ko' := by simpa using hke
        rw [Nat.add_zero] at k0
        simp only [List.length_cons, List.length_nil, List.length_map] at hkc
        obtain ⟨kb', ko', hke, -, -, k2⟩ := texts_at (k := 2) hT rfl
        obtain ⟨rfl, rfl⟩ : kb = kb' ∧ ko = ko' := by simpa using hke
        have hfin : ∀ W, Below w3.heap.size w3 W → _ := fun W hW => HF.out w3 W bv' hC3 hM3 hW
        clear hT hke HF hC3 hM3
        go_wp2_with fail
        refine (hyc _ _).mono ?_
        rintro e w4 ⟨rfl, hw4⟩
        replace hw4 := hw4.symm
        subst hw4
        clear hyc
        go_wp2_with fail
        go_region_with (go_at_call 60; refine (hyes _ _).mono ?_; rintro e w5 ⟨rfl, hw5⟩; replace hw5 := hw5.symm; subst hw5)
        all_goals
          go_wp2_with fail
          go_ret
          exact hfin _ (by first | exact below_drew (Below.refl _ _) | exact Below.refl _ _)
      · rw [if_neg he]
        have hno := casks_no a b he
        go_enter Try.func37, Try.ntmps37
        go_wp2_with fail
        refine hPs.mono ?_
        rintro e w3 ⟨v, bv', rfl, hT, hC3, hM3⟩
        clear hPs
        obtain ⟨va, vc, rfl⟩ := texts_len hT
        obtain ⟨kb, ko, rfl, hkc, hkb, k0⟩ := texts_at (k := 0) hT rfl
        obtain ⟨kb', ko', hke, -, -, k1⟩ := texts_at (k := 1) hT rfl
        obtain ⟨rfl, rfl⟩ : kb = kb' ∧ ko = ko' := by simpa using hke
        rw [Nat.add_zero] at k0
        simp only [List.length_cons, List.length_nil, List.length_map] at hkc
        obtain ⟨kb', ko', hke, -, -, k2⟩ := texts_at (k := 2) hT rfl
        obtain ⟨rfl, rfl⟩ : kb = kb' ∧ ko = ko' := by simpa using hke
        clear hT hke hC3
        go_wp2_with fail
        refine (hyc _ _).mono ?_
        rintro e w4 ⟨rfl, hw4⟩
        replace hw4 := hw4.symm
        subst hw4
        clear hyc
        go_wp2_with fail
        go_region_with (go_at_call 60; refine (hno _ _).mono ?_; rintro e w5 ⟨rfl, hw5⟩; replace hw5 := hw5.symm; subst hw5; refine (fun (_ : wpAny Try.prog .any #[] (fun _ _ _ => True) 0 #[] ⟨#[], []⟩ w3) => ⟨rfl, HFN.out _ bv' hM3 (by first | exact below_drew (Below.refl _ _) | exact Below.refl _ _)⟩) ?_)
        all_goals trivial
    · rw [if_neg hc]
      have hno : ∀ (i : Int) (w : World), Calls Try.prog 60 #[.int .i64 i, .string (S (enc c)), .string ⟨#[98]⟩] w fun en w' => en = .panicked (thC 23 i) ∧ w' = w := casks_no c .tb hc
      go_enter Try.func37, Try.ntmps37
      go_wp2_with fail
      refine hPs.mono ?_
      rintro e w3 ⟨v, bv', rfl, hT, hC3, hM3⟩
      clear hPs
      obtain ⟨va, vc, rfl⟩ := texts_len hT
      obtain ⟨kb, ko, rfl, hkc, hkb, k0⟩ := texts_at (k := 0) hT rfl
      obtain ⟨kb', ko', hke, -, -, k1⟩ := texts_at (k := 1) hT rfl
      obtain ⟨rfl, rfl⟩ : kb = kb' ∧ ko = ko' := by simpa using hke
      rw [Nat.add_zero] at k0
      simp only [List.length_cons, List.length_nil, List.length_map] at hkc
      have hfin := HFN.out w3 bv' hM3 (Below.refl _ _)
      clear hT hke HFN hC3 hM3
      go_wp2_with fail
      refine (hno _ _).mono ?_
      rintro e w4 ⟨rfl, hw4⟩
      replace hw4 := hw4.symm
      subst hw4
      clear hno
      go_wp2_with fail
      exact ⟨rfl, hfin⟩
end Go.Proofs.Ytnhihajhhlilfaa
namespace Go.Proofs.Ytnhihajhhlilfaa
open Go.RowKit Co
open T3.Tp (Ty enc cns)
open Tr (T flat flats)
set_option maxRecDepth 100000
set_option linter.unusedSimpArgs false
set_option linter.unusedVariables false

set_option maxHeartbeats 2000000 in
theorem kind_reckoning {B cb : Nat} {nv : Value} {l : List Tr.Nd} {rb N : Nat} {x : Tr.Nd} {ks : List T} {i : Nat} {rest : List Tr.Nd} (h : Kn B cb nv l rb N x ks i rest) (hκ : x.kind = 10 ∨ x.kind = 11 ∨ x.kind = 12 ∨ x.kind = 16) : KindC B cb nv l rb 38 x ks i := by
  intro env bv w hE hen hC
  have hA : Calls Try.prog 63 #[.pointer (some ⟨cb, 0, none⟩), .int .i64 (i : Int), .string ⟨#[105]⟩] w (AeEnd B w cb nv bv l rb (i + 1 + (flats ks).length) env (aeR .ti i (tyL env ks (i + 1)))) := askEach_any B cb nv l rb N h.hl h.hP x ks i rest env bv w h.hx h.hk h.hw h.hN h.hd hE hen hC .ti
  have hr : tyT env (.nd x ks) i = match aeR .ti i (tyL env ks (i + 1)) with | .error q => .error q | .ok _ => .ok .ti := by
    rw [tyT_plain (by omega)]
    cases tyL env ks (i + 1) with
    | error e => rfl
    | ok ts =>
      have hru : rul env x i ts = if allT .ti ts then .ok .ti else .error (23, i) := by
        unfold rul opT
        rcases hκ with hκ | hκ | hκ | hκ <;> simp [hκ]
      show rul env x i ts = _
      rw [hru]
      simp only [aeR]
      cases allT .ti ts <;> rfl
  rw [hr]
  generalize aeR .ti i (tyL env ks (i + 1)) = R at *
  clear hr hC
  generalize (flats ks).length = m at *
  cases R with
  | error q =>
    have HF : Aside (∀ e w3, AeEnd B w cb nv bv l rb (i + 1 + m) env (.error q) e w3 → e = .panicked (thC q.1 q.2) ∧ PtEnd B w cb nv bv l rb (i + 1 + m) env (.error q) e w3) := fun e w3 h => ⟨h.1, h⟩
    clear h
    go_enter Try.func38, Try.ntmps38
    go_wp2_with fail
    refine hA.mono ?_
    intro e w3 h3
    obtain ⟨rfl, h4⟩ := HF.out e w3 h3
    clear hA HF h3
    go_wp2_with fail
    exact ⟨rfl, h4⟩
  | ok u =>
    clear h
    go_enter Try.func38, Try.ntmps38
    go_wp2_with fail
    refine hA.mono ?_
    rintro e w3 ⟨rfl, bv', hC3, hM3⟩
    have h4 : PtEnd B w cb nv bv l rb (i + 1 + m) env (.ok .ti) (.returned (.string ⟨#[105]⟩)) w3 := ⟨rfl, bv', hC3, hM3⟩
    clear hA hC3 hM3
    go_wp2_with fail
    go_ret
    exact h4

set_option maxHeartbeats 2000000 in
theorem kind_comparison {B cb : Nat} {nv : Value} {l : List Tr.Nd} {rb N : Nat} {x : Tr.Nd} {ks : List T} {i : Nat} {rest : List Tr.Nd} (h : Kn B cb nv l rb N x ks i rest) (hκ : x.kind = 14 ∨ x.kind = 15) : KindC B cb nv l rb 40 x ks i := by
  intro env bv w hE hen hC
  have hA : Calls Try.prog 63 #[.pointer (some ⟨cb, 0, none⟩), .int .i64 (i : Int), .string ⟨#[105]⟩] w (AeEnd B w cb nv bv l rb (i + 1 + (flats ks).length) env (aeR .ti i (tyL env ks (i + 1)))) := askEach_any B cb nv l rb N h.hl h.hP x ks i rest env bv w h.hx h.hk h.hw h.hN h.hd hE hen hC .ti
  have hr : tyT env (.nd x ks) i = match aeR .ti i (tyL env ks (i + 1)) with | .error q => .error q | .ok _ => .ok .tb := by
    rw [tyT_plain (by omega)]
    cases tyL env ks (i + 1) with
    | error e => rfl
    | ok ts =>
      have hru : rul env x i ts = if allT .ti ts then .ok .tb else .error (23, i) := by
        unfold rul opT
        rcases hκ with hκ | hκ <;> simp [hκ]
      show rul env x i ts = _
      rw [hru]
      simp only [aeR]
      cases allT .ti ts <;> rfl
  rw [hr]
  generalize aeR .ti i (tyL env ks (i + 1)) = R at *
  clear hr hC
  generalize (flats ks).length = m at *
  cases R with
  | error q =>
    have HF : Aside (∀ e w3, AeEnd B w cb nv bv l rb (i + 1 + m) env (.error q) e w3 → e = .panicked (thC q.1 q.2) ∧ PtEnd B w cb nv bv l rb (i + 1 + m) env (.error q) e w3) := fun e w3 h => ⟨h.1, h⟩
    clear h
    go_enter Try.func40, Try.ntmps40
    go_wp2_with fail
    refine hA.mono ?_
    intro e w3 h3
    obtain ⟨rfl, h4⟩ := HF.out e w3 h3
    clear hA HF h3
    go_wp2_with fail
    exact ⟨rfl, h4⟩
  | ok u =>
    clear h
    go_enter Try.func40, Try.ntmps40
    go_wp2_with fail
    refine hA.mono ?_
    rintro e w3 ⟨rfl, bv', hC3, hM3⟩
    have h4 : PtEnd B w cb nv bv l rb (i + 1 + m) env (.ok .tb) (.returned (.string ⟨#[98]⟩)) w3 := ⟨rfl, bv', hC3, hM3⟩
    clear hA hC3 hM3
    go_wp2_with fail
    go_ret
    exact h4

set_option maxHeartbeats 2000000 in
theorem kind_join {B cb : Nat} {nv : Value} {l : List Tr.Nd} {rb N : Nat} {x : Tr.Nd} {ks : List T} {i : Nat} {rest : List Tr.Nd} (h : Kn B cb nv l rb N x ks i rest) (hκ : x.kind = 13) : KindC B cb nv l rb 39 x ks i := by
  intro env bv w hE hen hC
  have hA : Calls Try.prog 63 #[.pointer (some ⟨cb, 0, none⟩), .int .i64 (i : Int), .string ⟨#[116]⟩] w (AeEnd B w cb nv bv l rb (i + 1 + (flats ks).length) env (aeR .tt i (tyL env ks (i + 1)))) := askEach_any B cb nv l rb N h.hl h.hP x ks i rest env bv w h.hx h.hk h.hw h.hN h.hd hE hen hC .tt
  have hr : tyT env (.nd x ks) i = match aeR .tt i (tyL env ks (i + 1)) with | .error q => .error q | .ok _ => .ok .tt := by
    rw [tyT_plain (by omega)]
    cases tyL env ks (i + 1) with
    | error e => rfl
    | ok ts =>
      have hru : rul env x i ts = if allT .tt ts then .ok .tt else .error (23, i) := by
        unfold rul opT
        simp [hκ]
      show rul env x i ts = _
      rw [hru]
      simp only [aeR]
      cases allT .tt ts <;> rfl
  rw [hr]
  generalize aeR .tt i (tyL env ks (i + 1)) = R at *
  clear hr hC
  generalize (flats ks).length = m at *
  cases R with
  | error q =>
    have HF : Aside (∀ e w3, AeEnd B w cb nv bv l rb (i + 1 + m) env (.error q) e w3 → e = .panicked (thC q.1 q.2) ∧ PtEnd B w cb nv bv l rb (i + 1 + m) env (.error q) e w3) := fun e w3 h => ⟨h.1, h⟩
    clear h
    go_enter Try.func39, Try.ntmps39
    go_wp2_with fail
    refine hA.mono ?_
    intro e w3 h3
    obtain ⟨rfl, h4⟩ := HF.out e w3 h3
    clear hA HF h3
    go_wp2_with fail
    exact ⟨rfl, h4⟩
  | ok u =>
    clear h
    go_enter Try.func39, Try.ntmps39
    go_wp2_with fail
    refine hA.mono ?_
    rintro e w3 ⟨rfl, bv', hC3, hM3⟩
    have h4 : PtEnd B w cb nv bv l rb (i + 1 + m) env (.ok .tt) (.returned (.string ⟨#[116]⟩)) w3 := ⟨rfl, bv', hC3, hM3⟩
    clear hA hC3 hM3
    go_wp2_with fail
    go_ret
    exact h4

set_option maxHeartbeats 2000000 in
theorem kind_size {B cb : Nat} {nv : Value} {l : List Tr.Nd} {rb N : Nat} {x : Tr.Nd} {ks : List T} {i : Nat} {rest : List Tr.Nd} (h : Kn B cb nv l rb N x ks i rest) (hκ : x.kind = 17) : KindC B cb nv l rb 41 x ks i := by
  intro env bv w hE hen hC
  have hA : Calls Try.prog 63 #[.pointer (some ⟨cb, 0, none⟩), .int .i64 (i : Int), .string ⟨#[116]⟩] w (AeEnd B w cb nv bv l rb (i + 1 + (flats ks).length) env (aeR .tt i (tyL env ks (i + 1)))) := askEach_any B cb nv l rb N h.hl h.hP x ks i rest env bv w h.hx h.hk h.hw h.hN h.hd hE hen hC .tt
  have hr : tyT env (.nd x ks) i = match aeR .tt i (tyL env ks (i + 1)) with | .error q => .error q | .ok _ => .ok .ti := by
    rw [tyT_plain (by omega)]
    cases tyL env ks (i + 1) with
    | error e => rfl
    | ok ts =>
      have hru : rul env x i ts = if allT .tt ts then .ok .ti else .error (23, i) := by
        unfold rul opT
        simp [hκ]
      show rul env x i ts = _
      rw [hru]
      simp only [aeR]
      cases allT .tt ts <;> rfl
  rw [hr]
  generalize aeR .tt i (tyL env ks (i + 1)) = R at *
  clear hr hC
  generalize (flats ks).length = m at *
  cases R with
  | error q =>
    have HF : Aside (∀ e w3, AeEnd B w cb nv bv l rb (i + 1 + m) env (.error q) e w3 → e = .panicked (thC q.1 q.2) ∧ PtEnd B w cb nv bv l rb (i + 1 + m) env (.error q) e w3) := fun e w3 h => ⟨h.1, h⟩
    clear h
    go_enter Try.func41, Try.ntmps41
    go_wp2_with fail
    refine hA.mono ?_
    intro e w3 h3
    obtain ⟨rfl, h4⟩ := HF.out e w3 h3
    clear hA HF h3
    go_wp2_with fail
    exact ⟨rfl, h4⟩
  | ok u =>
    clear h
    go_enter Try.func41, Try.ntmps41
    go_wp2_with fail
    refine hA.mono ?_
    rintro e w3 ⟨rfl, bv', hC3, hM3⟩
    have h4 : PtEnd B w cb nv bv l rb (i + 1 + m) env (.ok .ti) (.returned (.string ⟨#[105]⟩)) w3 := ⟨rfl, bv', hC3, hM3⟩
    clear hA hC3 hM3
    go_wp2_with fail
    go_ret
    exact h4
end Go.Proofs.Ytnhihajhhlilfaa
