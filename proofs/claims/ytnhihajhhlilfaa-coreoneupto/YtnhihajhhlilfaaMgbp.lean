/- The rules of layer 10: no refusal is told as none. -/
import Derived.Test.YtnhihajhhlilfaaMgaf
namespace Go.Proofs.Ytnhihajhhlilfaa
set_option maxRecDepth 100000
set_option linter.unusedVariables false
namespace Co
open T3.Tp (Ty enc cns)
open Tr (T Nd flat flats high highs)
theorem made_pos {i : Nat} {t : Ty} {q : Int × Nat} (h : made i t = .error q) : q.1 ≠ 0 := by
  unfold made at h
  split at h
  · cases h
  · cases h; simp
theorem ahd_pos {nb : Nat} {x : Nd} {i : Nat} {q : Int × Nat} (h : ahd nb x i = some q) : q.1 ≠ 0 := by
  unfold ahd at h
  repeat' split at h
  all_goals first | (cases h; done) | (cases h; simp)
theorem rul_pos {env : List Ty} {x : Nd} {i : Nat} {ts : List Ty} {q : Int × Nat} (ht : takes x = true) (hk : x.kids = (ts.length : Int)) (h : rul env x i ts = .error q) : q.1 ≠ 0 := by
  have ha : ∀ n, ary x.kind = n → 0 ≤ n → (ts.length : Int) = n := by
    intro n h1 h2
    unfold takes at ht
    rw [h1, if_neg (by omega), if_neg (by omega)] at ht
    simp at ht
    omega
  unfold rul at h
  by_cases hk1 : x.kind = 1
  · rw [if_pos hk1] at h
    repeat' split at h
    all_goals first | (cases h; done) | (cases h; simp) | exact made_pos h
  rw [if_neg hk1] at h
  by_cases hk2 : x.kind = 2
  · rw [if_pos hk2] at h
    repeat' split at h
    all_goals first | (cases h; done) | (cases h; simp) | exact made_pos h
  rw [if_neg hk2] at h
  by_cases hk3 : x.kind = 3
  · rw [if_pos hk3] at h
    repeat' split at h
    all_goals first | (cases h; done) | (cases h; simp) | exact made_pos h
  rw [if_neg hk3] at h
  by_cases hk4 : x.kind = 4
  · rw [if_pos hk4] at h
    repeat' split at h
    all_goals first | (cases h; done) | (cases h; simp) | exact made_pos h
  rw [if_neg hk4] at h
  by_cases hk5 : x.kind = 5 ∨ x.kind = 6
  · rw [if_pos hk5] at h
    have hl := ha 1 (by rcases hk5 with e | e <;> rw [e] <;> decide) (by omega)
    match ts, (show ts.length = 1 by omega) with
    | [a], _ =>
      simp only at h
      repeat' split at h
      all_goals first | (cases h; done) | (cases h; simp) | exact made_pos h
  rw [if_neg hk5] at h
  by_cases hk6 : x.kind = 7
  · rw [if_pos hk6] at h
    repeat' split at h
    all_goals first | (cases h; done) | (cases h; simp) | exact made_pos h
  rw [if_neg hk6] at h
  by_cases hk7 : x.kind = 9
  · rw [if_pos hk7] at h
    have hl := ha 3 (by rw [hk7]; decide) (by omega)
    match ts, (show ts.length = 3 by omega) with
    | [a, b, c], _ =>
      simp only at h
      repeat' split at h
      all_goals first | (cases h; done) | (cases h; simp) | exact made_pos h
  rw [if_neg hk7] at h
  by_cases hk8 : x.kind = 18
  · rw [if_pos hk8] at h
    have hl := ha 2 (by rw [hk8]; decide) (by omega)
    match ts, (show ts.length = 2 by omega) with
    | [a, b], _ =>
      simp only at h
      repeat' split at h
      all_goals first | (cases h; done) | (cases h; simp) | exact made_pos h
  rw [if_neg hk8] at h
  by_cases hk9 : x.kind = 19
  · rw [if_pos hk9] at h
    repeat' split at h
    all_goals first | (cases h; done) | (cases h; simp) | exact made_pos h
  rw [if_neg hk9] at h
  by_cases hk10 : x.kind = 20
  · rw [if_pos hk10] at h
    repeat' split at h
    all_goals first | (cases h; done) | (cases h; simp) | exact made_pos h
  rw [if_neg hk10] at h
  by_cases hk11 : x.kind = 21
  · rw [if_pos hk11] at h
    repeat' split at h
    all_goals first | (cases h; done) | (cases h; simp) | exact made_pos h
  rw [if_neg hk11] at h
  by_cases hk12 : x.kind = 22
  · rw [if_pos hk12] at h
    repeat' split at h
    all_goals first | (cases h; done) | (cases h; simp) | exact made_pos h
  rw [if_neg hk12] at h
  by_cases hk13 : x.kind = 23
  · rw [if_pos hk13] at h
    repeat' split at h
    all_goals first | (cases h; done) | (cases h; simp) | exact made_pos h
  rw [if_neg hk13] at h
  by_cases hk14 : x.kind = 24
  · rw [if_pos hk14] at h
    repeat' split at h
    all_goals first | (cases h; done) | (cases h; simp) | exact made_pos h
  rw [if_neg hk14] at h
  by_cases hk15 : x.kind = 25
  · rw [if_pos hk15] at h
    repeat' split at h
    all_goals first | (cases h; done) | (cases h; simp) | exact made_pos h
  rw [if_neg hk15] at h
  by_cases hk16 : x.kind = 26
  · rw [if_pos hk16] at h
    have hl := ha 1 (by rw [hk16]; decide) (by omega)
    match ts, (show ts.length = 1 by omega) with
    | [a], _ =>
      simp only at h
      repeat' split at h
      all_goals first | (cases h; done) | (cases h; simp) | exact made_pos h
  rw [if_neg hk16] at h
  by_cases hk17 : x.kind = 27
  · rw [if_pos hk17] at h
    repeat' split at h
    all_goals first | (cases h; done) | (cases h; simp) | exact made_pos h
  rw [if_neg hk17] at h
  by_cases hk18 : x.kind = 28
  · rw [if_pos hk18] at h
    repeat' split at h
    all_goals first | (cases h; done) | (cases h; simp) | exact made_pos h
  rw [if_neg hk18] at h
  by_cases hk19 : x.kind = 30
  · rw [if_pos hk19] at h
    have hl := ha 1 (by rw [hk19]; decide) (by omega)
    match ts, (show ts.length = 1 by omega) with
    | [a], _ =>
      simp only at h
      repeat' split at h
      all_goals first | (cases h; done) | (cases h; simp) | exact made_pos h
  rw [if_neg hk19] at h
  split at h
  · cases h
  · cases h; simp
theorem tyL_lenC {env : List Ty} : ∀ (ks : List T) (p : Nat) (ts : List Ty), tyL env ks p = .ok ts → ts.length = ks.length := by
  intro ks
  induction ks with
  | nil => intro p ts h; rw [tyL] at h; cases h; rfl
  | cons a r ih =>
    intro p ts h
    rw [tyL] at h
    split at h
    · cases h
    · split at h
      · cases h
      · rename_i b hb; cases h; simp [ih _ _ hb]
mutual
theorem tyT_pos : ∀ (t : T) (env : List Ty) (i : Nat) (q : Int × Nat), wfC t → tyT env t i = .error q → q.1 ≠ 0
  | .nd x ks, env, i, q, hw, h => by
    rw [wfC] at hw
    rw [tyT] at h
    split at h
    · rename_i e he
      cases h
      exact ahd_pos he
    · split at h
      · rename_i h8
        have hl : ks.length = 2 := by
          have ht := hw.1
          unfold takes at ht
          have ha : ary x.kind = 2 := by rw [h8]; decide
          rw [ha, if_neg (by omega), if_neg (by omega)] at ht
          simp at ht
          have := hw.2.1
          omega
        exact tyB_pos ks env (i + 1) q hl hw.2.2 h
      · split at h
        · rename_i e he
          cases h
          exact tyL_pos ks _ _ _ hw.2.2 he
        · rename_i ts hts
          have := tyL_lenC ks _ ts hts
          exact rul_pos hw.1 (by rw [hw.2.1, this]) h
theorem tyB_pos : ∀ (ts : List T) (env : List Ty) (i : Nat) (q : Int × Nat), ts.length = 2 → wfsC ts → tyB env ts i = .error q → q.1 ≠ 0
  | [], env, i, q, hl, hw, h => by simp at hl
  | a :: r, env, i, q, hl, hw, h => by
    rw [tyB] at h
    split at h
    · rename_i e he
      cases h
      exact tyT_pos a env i _ hw.1 he
    · exact tyC_pos r _ _ q (by simpa using hl) hw.2 h
theorem tyC_pos : ∀ (ts : List T) (env : List Ty) (i : Nat) (q : Int × Nat), ts.length = 1 → wfsC ts → tyC env ts i = .error q → q.1 ≠ 0
  | [], env, i, q, hl, hw, h => by simp at hl
  | b :: r, env, i, q, hl, hw, h => by rw [tyC] at h; exact tyT_pos b env i q hw.1 h
theorem tyL_pos : ∀ (ts : List T) (env : List Ty) (i : Nat) (q : Int × Nat), wfsC ts → tyL env ts i = .error q → q.1 ≠ 0
  | [], env, i, q, hw, h => by rw [tyL] at h; cases h
  | t :: r, env, i, q, hw, h => by
    rw [tyL] at h
    split at h
    · rename_i e he
      cases h
      exact tyT_pos t env i _ hw.1 he
    · split at h
      · rename_i e he
        cases h
        exact tyL_pos r env _ _ hw.2 he
      · cases h
end
theorem shK_pos {f : Nat → Rs (T × Nat)} (hf : ∀ i q, f i = .error q → q.1 ≠ 0) : ∀ (k i : Nat) (q : Int × Nat), shK f k i = .error q → q.1 ≠ 0
  | 0, i, q, h => by rw [shK] at h; cases h
  | k + 1, i, q, h => by
    rw [shK] at h
    split at h
    · rename_i e he; cases h; exact hf _ _ he
    · split at h
      · rename_i e he; cases h; exact shK_pos hf k _ _ he
      · cases h
theorem shT_pos {l : List Nd} : ∀ (d i : Nat) (q : Int × Nat), shT l d i = .error q → q.1 ≠ 0
  | 0, i, q, h => by
    rw [shT] at h
    split at h
    · cases h; simp
    · split at h <;> (cases h; simp)
  | d + 1, i, q, h => by
    rw [shT] at h
    split at h
    · cases h; simp
    · split at h
      · split at h
        · rename_i e he; cases h; exact shK_pos (fun i q => shT_pos d i q) _ _ _ he
        · cases h
      · cases h; simp
theorem check_pos {l : List Nd} {q : Int × Nat} (h : check l = .error q) : q.1 ≠ 0 := by
  unfold check at h
  split at h
  · cases h; simp
  · split at h
    · rename_i e he
      cases h
      unfold shape at he
      split at he
      · rename_i e' he'; cases he; exact shT_pos _ _ _ he'
      · split at he
        · cases he
        · cases he; simp
    · rename_i t ht
      exact tyT_pos t [] 0 q (shape_ok ht).2.1 h
end Co
end Go.Proofs.Ytnhihajhhlilfaa
