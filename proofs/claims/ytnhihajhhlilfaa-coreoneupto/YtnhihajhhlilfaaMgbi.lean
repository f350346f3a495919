/- Package core: operations. -/
import Derived.Test.YtnhihajhhlilfaaMgay
namespace Go.Proofs.Ytnhihajhhlilfaa
open Go.RowKit Co
open T3.Tp (Ty enc cns)
open Tr (T flat flats)
set_option maxRecDepth 100000
set_option linter.unusedSimpArgs false
set_option linter.unusedVariables false

set_option maxHeartbeats 2000000 in
theorem kind_reckoning {B cb : Nat} {nv : Value} {l : List Tr.Nd} {rb N : Nat} {x : Tr.Nd} {ks : List T} {i : Nat} {rest : List Tr.Nd} (h : Kn B cb nv l rb N x ks i rest) (hκ : x.kind = 10 ∨ x.kind = 11 ∨ x.kind = 12 ∨ x.kind = 16) : KindC B cb nv l rb 38 x ks i := by
  intro env bv w hE hen hC
  have hA : Calls Try.prog 63 #[.pointer (some ⟨cb, 0, none⟩), .int .i64 (i : Int), .string ⟨#[105]⟩] w (AeEnd B w cb nv bv l rb (i + 1 + (flats ks).length) env (aeR .ti i (tyL env ks (i + 1)))) := askEach_any B cb nv l rb N h.hl h.hP x ks i rest env bv w h.hx h.hk h.hw h.hN h.hd hE hen hC .ti
  have hr : tyT env (.nd x ks) i = match aeR .ti i (tyL env ks (i + 1)) with | .error q => .error q | .ok _ => .ok .ti := by
    rw [tyT_plain (by omega)]
    cases tyL env ks (i + 1) with
    | error e => rfl
    | ok ts =>
      have hru : rul env x i ts = if allT .ti ts then .ok .ti else .error (23, i) := by
        unfold rul opT
        rcases hκ with hκ | hκ | hκ | hκ <;> simp [hκ]
      show rul env x i ts = _
      rw [hru]
      simp only [aeR]
      cases allT .ti ts <;> rfl
  rw [hr]
  generalize aeR .ti i (tyL env ks (i + 1)) = R at *
  clear hr hC
  generalize (flats ks).length = m at *
  cases R with
  | error q =>
    have HF : Aside (∀ e w3, AeEnd B w cb nv bv l rb (i + 1 + m) env (.error q) e w3 → e = .panicked (thC q.1 q.2) ∧ PtEnd B w cb nv bv l rb (i + 1 + m) env (.error q) e w3) := fun e w3 h => ⟨h.1, h⟩
    clear h
    go_enter Try.func38, Try.ntmps38
    go_wp2_with fail
    refine hA.mono ?_
    intro e w3 h3
    obtain ⟨rfl, h4⟩ := HF.out e w3 h3
    clear hA HF h3
    go_wp2_with fail
    exact ⟨rfl, h4⟩
  | ok u =>
    clear h
    go_enter Try.func38, Try.ntmps38
    go_wp2_with fail
    refine hA.mono ?_
    rintro e w3 ⟨rfl, bv', hC3, hM3⟩
    have h4 : PtEnd B w cb nv bv l rb (i + 1 + m) env (.ok .ti) (.returned (.string ⟨#[105]⟩)) w3 := ⟨rfl, bv', hC3, hM3⟩
    clear hA hC3 hM3
    go_wp2_with fail
    go_ret
    exact h4

set_option maxHeartbeats 2000000 in
theorem kind_comparison {B cb : Nat} {nv : Value} {l : List Tr.Nd} {rb N : Nat} {x : Tr.Nd} {ks : List T} {i : Nat} {rest : List Tr.Nd} (h : Kn B cb nv l rb N x ks i rest) (hκ : x.kind = 14 ∨ x.kind = 15) : KindC B cb nv l rb 40 x ks i := by
  intro env bv w hE hen hC
  have hA : Calls Try.prog 63 #[.pointer (some ⟨cb, 0, none⟩), .int .i64 (i : Int), .string ⟨#[105]⟩] w (AeEnd B w cb nv bv l rb (i + 1 + (flats ks).length) env (aeR .ti i (tyL env ks (i + 1)))) := askEach_any B cb nv l rb N h.hl h.hP x ks i rest env bv w h.hx h.hk h.hw h.hN h.hd hE hen hC .ti
  have hr : tyT env (.nd x ks) i = match aeR .ti i (tyL env ks (i + 1)) with | .error q => .error q | .ok _ => .ok .tb := by
    rw [tyT_plain (by omega)]
    cases tyL env ks (i + 1) with
    | error e => rfl
    | ok ts =>
      have hru : rul env x i ts = if allT .ti ts then .ok .tb else .error (23, i) := by
        unfold rul opT
        rcases hκ with hκ | hκ <;> simp [hκ]
      show rul env x i ts = _
      rw [hru]
      simp only [aeR]
      cases allT .ti ts <;> rfl
  rw [hr]
  generalize aeR .ti i (tyL env ks (i + 1)) = R at *
  clear hr hC
  generalize (flats ks).length = m at *
  cases R with
  | error q =>
    have HF : Aside (∀ e w3, AeEnd B w cb nv bv l rb (i + 1 + m) env (.error q) e w3 → e = .panicked (thC q.1 q.2) ∧ PtEnd B w cb nv bv l rb (i + 1 + m) env (.error q) e w3) := fun e w3 h => ⟨h.1, h⟩
    clear h
    go_enter Try.func40, Try.ntmps40
    go_wp2_with fail
    refine hA.mono ?_
    intro e w3 h3
    obtain ⟨rfl, h4⟩ := HF.out e w3 h3
    clear hA HF h3
    go_wp2_with fail
    exact ⟨rfl, h4⟩
  | ok u =>
    clear h
    go_enter Try.func40, Try.ntmps40
    go_wp2_with fail
    refine hA.mono ?_
    rintro e w3 ⟨rfl, bv', hC3, hM3⟩
    have h4 : PtEnd B w cb nv bv l rb (i + 1 + m) env (.ok .tb) (.returned (.string ⟨#[98]⟩)) w3 := ⟨rfl, bv', hC3, hM3⟩
    clear hA hC3 hM3
    go_wp2_with fail
    go_ret
    exact h4

set_option maxHeartbeats 2000000 in
theorem kind_join {B cb : Nat} {nv : Value} {l : List Tr.Nd} {rb N : Nat} {x : Tr.Nd} {ks : List T} {i : Nat} {rest : List Tr.Nd} (h : Kn B cb nv l rb N x ks i rest) (hκ : x.kind = 13) : KindC B cb nv l rb 39 x ks i := by
  intro env bv w hE hen hC
  have hA : Calls Try.prog 63 #[.pointer (some ⟨cb, 0, none⟩), .int .i64 (i : Int), .string ⟨#[116]⟩] w (AeEnd B w cb nv bv l rb (i + 1 + (flats ks).length) env (aeR .tt i (tyL env ks (i + 1)))) := askEach_any B cb nv l rb N h.hl h.hP x ks i rest env bv w h.hx h.hk h.hw h.hN h.hd hE hen hC .tt
  have hr : tyT env (.nd x ks) i = match aeR .tt i (tyL env ks (i + 1)) with | .error q => .error q | .ok _ => .ok .tt := by
    rw [tyT_plain (by omega)]
    cases tyL env ks (i + 1) with
    | error e => rfl
    | ok ts =>
      have hru : rul env x i ts = if allT .tt ts then .ok .tt else .error (23, i) := by
        unfold rul opT
        simp [hκ]
      show rul env x i ts = _
      rw [hru]
      simp only [aeR]
      cases allT .tt ts <;> rfl
  rw [hr]
  generalize aeR .tt i (tyL env ks (i + 1)) = R at *
  clear hr hC
  generalize (flats ks).length = m at *
  cases R with
  | error q =>
    have HF : Aside (∀ e w3, AeEnd B w cb nv bv l rb (i + 1 + m) env (.error q) e w3 → e = .panicked (thC q.1 q.2) ∧ PtEnd B w cb nv bv l rb (i + 1 + m) env (.error q) e w3) := fun e w3 h => ⟨h.1, h⟩
    clear h
    go_enter Try.func39, Try.ntmps39
    go_wp2_with fail
    refine hA.mono ?_
    intro e w3 h3
    obtain ⟨rfl, h4⟩ := HF.out e w3 h3
    clear hA HF h3
    go_wp2_with fail
    exact ⟨rfl, h4⟩
  | ok u =>
    clear h
    go_enter Try.func39, Try.ntmps39
    go_wp2_with fail
    refine hA.mono ?_
    rintro e w3 ⟨rfl, bv', hC3, hM3⟩
    have h4 : PtEnd B w cb nv bv l rb (i + 1 + m) env (.ok .tt) (.returned (.string ⟨#[116]⟩)) w3 := ⟨rfl, bv', hC3, hM3⟩
    clear hA hC3 hM3
    go_wp2_with fail
    go_ret
    exact h4

set_option maxHeartbeats 2000000 in
theorem kind_size {B cb : Nat} {nv : Value} {l : List Tr.Nd} {rb N : Nat} {x : Tr.Nd} {ks : List T} {i : Nat} {rest : List Tr.Nd} (h : Kn B cb nv l rb N x ks i rest) (hκ : x.kind = 17) : KindC B cb nv l rb 41 x ks i := by
  intro env bv w hE hen hC
  have hA : Calls Try.prog 63 #[.pointer (some ⟨cb, 0, none⟩), .int .i64 (i : Int), .string ⟨#[116]⟩] w (AeEnd B w cb nv bv l rb (i + 1 + (flats ks).length) env (aeR .tt i (tyL env ks (i + 1)))) := askEach_any B cb nv l rb N h.hl h.hP x ks i rest env bv w h.hx h.hk h.hw h.hN h.hd hE hen hC .tt
  have hr : tyT env (.nd x ks) i = match aeR .tt i (tyL env ks (i + 1)) with | .error q => .error q | .ok _ => .ok .ti := by
    rw [tyT_plain (by omega)]
    cases tyL env ks (i + 1) with
    | error e => rfl
    | ok ts =>
      have hru : rul env x i ts = if allT .tt ts then .ok .ti else .error (23, i) := by
        unfold rul opT
        simp [hκ]
      show rul env x i ts = _
      rw [hru]
      simp only [aeR]
      cases allT .tt ts <;> rfl
  rw [hr]
  generalize aeR .tt i (tyL env ks (i + 1)) = R at *
  clear hr hC
  generalize (flats ks).length = m at *
  cases R with
  | error q =>
    have HF : Aside (∀ e w3, AeEnd B w cb nv bv l rb (i + 1 + m) env (.error q) e w3 → e = .panicked (thC q.1 q.2) ∧ PtEnd B w cb nv bv l rb (i + 1 + m) env (.error q) e w3) := fun e w3 h => ⟨h.1, h⟩
    clear h
    go_enter Try.func41, Try.ntmps41
    go_wp2_with fail
    refine hA.mono ?_
    intro e w3 h3
    obtain ⟨rfl, h4⟩ := HF.out e w3 h3
    clear hA HF h3
    go_wp2_with fail
    exact ⟨rfl, h4⟩
  | ok u =>
    clear h
    go_enter Try.func41, Try.ntmps41
    go_wp2_with fail
    refine hA.mono ?_
    rintro e w3 ⟨rfl, bv', hC3, hM3⟩
    have h4 : PtEnd B w cb nv bv l rb (i + 1 + m) env (.ok .ti) (.returned (.string ⟨#[105]⟩)) w3 := ⟨rfl, bv', hC3, hM3⟩
    clear hA hC3 hM3
    go_wp2_with fail
    go_ret
    exact h4
end Go.Proofs.Ytnhihajhhlilfaa
