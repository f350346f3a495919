/- The rules of layer 10: closed terms stand anywhere; what is made of them. -/
import Derived.Test.YtnhihajhhlilfaaMgaf
namespace Go.Proofs.Ytnhihajhhlilfaa
set_option maxRecDepth 100000
set_option linter.unusedVariables false
namespace Co
open T3.Tp (Ty enc cns)
open Tr (T Nd flat flats high highs)
theorem ahd_at {nb nb' i j : Nat} {x : Nd} (h : ahd nb x i = none) (hn : nb ≤ nb') : ahd nb' x j = none := by
  unfold ahd at h ⊢
  by_cases h2 : x.kind = 2
  · rw [if_pos h2] at h ⊢
    split at h <;> simp_all
  rw [if_neg h2] at h ⊢
  by_cases h3 : x.kind = 3
  · rw [if_pos h3] at h ⊢
    split at h <;> simp_all
  rw [if_neg h3] at h ⊢
  by_cases h4 : x.kind = 4
  · rw [if_pos h4] at h ⊢
    split at h
    · rename_i h5; rw [if_pos ⟨h5.1, by omega⟩]
    · cases h
  rw [if_neg h4] at h ⊢
  by_cases h5 : x.kind = 5 ∨ x.kind = 6
  · rw [if_pos h5] at h ⊢
    split at h
    · rename_i hg; rw [if_pos hg]
      split at h
      · rename_i hz; rw [if_pos hz]
      · cases h
    · cases h
  rw [if_neg h5] at h ⊢
  by_cases h6 : x.kind = 21
  · rw [if_pos h6] at h ⊢
    split at h
    · rename_i hg; rw [if_pos hg]
    · cases h
  rw [if_neg h6] at h ⊢
  by_cases h7 : x.kind = 30
  · rw [if_pos h7] at h ⊢
    split at h
    · rename_i hg; rw [if_pos hg]
      split at h
      · rename_i hc; rw [if_pos hc]
        split at h
        · rename_i hl; rw [if_pos hl]
        · cases h
      · cases h
    · cases h
  rw [if_neg h7]
theorem inn_app (x : Nd) (env ext : List Ty) : inn x (env ++ ext) = inn x env ++ ext := by
  unfold inn
  by_cases h5 : x.kind = 5
  · simp [h5]
  · by_cases h6 : x.kind = 6
    · simp [h6]
    · simp [h5, h6]
theorem made_at {i j : Nat} {t u : Ty} (h : made i t = .ok u) : made j t = .ok u := by
  unfold made at h ⊢
  split at h
  · rename_i hz; rw [if_pos hz]; exact h
  · cases h
theorem rul_at {env ext : List Ty} {x : Nd} {i j : Nat} {ts : List Ty} {τ : Ty} (ha : ahd env.length x i = none) (h : rul env x i ts = .ok τ) : rul (env ++ ext) x j ts = .ok τ := by
  obtain ⟨-, -, -, a4⟩ := ahd_good ha
  unfold rul at h ⊢
  by_cases hk1 : x.kind = 1
  · rw [if_pos hk1] at h ⊢
    exact h
  rw [if_neg hk1] at h ⊢
  by_cases hk2 : x.kind = 2
  · rw [if_pos hk2] at h ⊢
    exact h
  rw [if_neg hk2] at h ⊢
  by_cases hk3 : x.kind = 3
  · rw [if_pos hk3] at h ⊢
    exact h
  rw [if_neg hk3] at h ⊢
  by_cases hk4 : x.kind = 4
  · rw [if_pos hk4] at h ⊢
    obtain ⟨h0, h1⟩ := a4 hk4
    have hn : x.n.toNat < env.length := by omega
    rw [List.getElem?_append_left hn]
    exact h
  rw [if_neg hk4] at h ⊢
  by_cases hk5 : x.kind = 5 ∨ x.kind = 6
  · rw [if_pos hk5] at h ⊢
    split at h
    · first
        | exact h
        | (split at h
           · first
               | exact h
               | (rename_i hg; rw [if_pos hg]; first | exact h | (split at h; · (rename_i hg2; rw [if_pos hg2]; exact h); · cases h))
           · cases h)
    · cases h
  rw [if_neg hk5] at h ⊢
  by_cases hk6 : x.kind = 7
  · rw [if_pos hk6] at h ⊢
    split at h
    · first
        | exact h
        | (split at h
           · first
               | exact h
               | (rename_i hg; rw [if_pos hg]; first | exact h | (split at h; · (rename_i hg2; rw [if_pos hg2]; exact h); · cases h))
           · cases h)
    · cases h
  rw [if_neg hk6] at h ⊢
  by_cases hk7 : x.kind = 9
  · rw [if_pos hk7] at h ⊢
    split at h
    · split at h
      · rename_i hg
        rw [if_pos hg]
        split at h
        · rename_i hg2; rw [if_pos hg2]; exact h
        · cases h
      · cases h
    · cases h
  rw [if_neg hk7] at h ⊢
  by_cases hk8 : x.kind = 18
  · rw [if_pos hk8] at h ⊢
    split at h
    · exact made_at h
    · cases h
  rw [if_neg hk8] at h ⊢
  by_cases hk9 : x.kind = 19
  · rw [if_pos hk9] at h ⊢
    split at h
    · first
        | exact h
        | (split at h
           · first
               | exact h
               | (rename_i hg; rw [if_pos hg]; first | exact h | (split at h; · (rename_i hg2; rw [if_pos hg2]; exact h); · cases h))
           · cases h)
    · cases h
  rw [if_neg hk9] at h ⊢
  by_cases hk10 : x.kind = 20
  · rw [if_pos hk10] at h ⊢
    split at h
    · first
        | exact h
        | (split at h
           · first
               | exact h
               | (rename_i hg; rw [if_pos hg]; first | exact h | (split at h; · (rename_i hg2; rw [if_pos hg2]; exact h); · cases h))
           · cases h)
    · cases h
  rw [if_neg hk10] at h ⊢
  by_cases hk11 : x.kind = 21
  · rw [if_pos hk11] at h ⊢
    split at h
    · rename_i hg; rw [if_pos hg]; exact made_at h
    · cases h
  rw [if_neg hk11] at h ⊢
  by_cases hk12 : x.kind = 22
  · rw [if_pos hk12] at h ⊢
    split at h
    · first
        | exact h
        | (split at h
           · first
               | exact h
               | (rename_i hg; rw [if_pos hg]; first | exact h | (split at h; · (rename_i hg2; rw [if_pos hg2]; exact h); · cases h))
           · cases h)
    · cases h
  rw [if_neg hk12] at h ⊢
  by_cases hk13 : x.kind = 23
  · rw [if_pos hk13] at h ⊢
    split at h
    · first
        | exact h
        | (split at h
           · first
               | exact h
               | (rename_i hg; rw [if_pos hg]; first | exact h | (split at h; · (rename_i hg2; rw [if_pos hg2]; exact h); · cases h))
           · cases h)
    · cases h
  rw [if_neg hk13] at h ⊢
  by_cases hk14 : x.kind = 24
  · rw [if_pos hk14] at h ⊢
    split at h
    · first
        | exact h
        | (split at h
           · first
               | exact h
               | (rename_i hg; rw [if_pos hg]; first | exact h | (split at h; · (rename_i hg2; rw [if_pos hg2]; exact h); · cases h))
           · cases h)
    · cases h
  rw [if_neg hk14] at h ⊢
  by_cases hk15 : x.kind = 25
  · rw [if_pos hk15] at h ⊢
    split at h
    · first
        | exact h
        | (split at h
           · first
               | exact h
               | (rename_i hg; rw [if_pos hg]; first | exact h | (split at h; · (rename_i hg2; rw [if_pos hg2]; exact h); · cases h))
           · cases h)
    · cases h
  rw [if_neg hk15] at h ⊢
  by_cases hk16 : x.kind = 26
  · rw [if_pos hk16] at h ⊢
    split at h
    · exact made_at h
    · cases h
  rw [if_neg hk16] at h ⊢
  by_cases hk17 : x.kind = 27
  · rw [if_pos hk17] at h ⊢
    split at h
    · first
        | exact h
        | (split at h
           · first
               | exact h
               | (rename_i hg; rw [if_pos hg]; first | exact h | (split at h; · (rename_i hg2; rw [if_pos hg2]; exact h); · cases h))
           · cases h)
    · cases h
  rw [if_neg hk17] at h ⊢
  by_cases hk18 : x.kind = 28
  · rw [if_pos hk18] at h ⊢
    split at h
    · first
        | exact h
        | (split at h
           · first
               | exact h
               | (rename_i hg; rw [if_pos hg]; first | exact h | (split at h; · (rename_i hg2; rw [if_pos hg2]; exact h); · cases h))
           · cases h)
    · cases h
  rw [if_neg hk18] at h ⊢
  by_cases hk19 : x.kind = 30
  · rw [if_pos hk19] at h ⊢
    split at h
    · first
        | exact h
        | (split at h
           · first
               | exact h
               | (rename_i hg; rw [if_pos hg]; first | exact h | (split at h; · (rename_i hg2; rw [if_pos hg2]; exact h); · cases h))
           · cases h)
    · cases h
  rw [if_neg hk19] at h ⊢
  split at h
  · rename_i hg; rw [if_pos hg]; exact h
  · cases h
mutual
theorem tyT_at : ∀ (t : T) (env ext : List Ty) (i j : Nat) (τ : Ty), tyT env t i = .ok τ → tyT (env ++ ext) t j = .ok τ
  | .nd x ks, env, ext, i, j, τ, h => by
    rw [tyT] at h ⊢
    split at h
    · cases h
    · rename_i ha
      rw [ahd_at ha (nb' := (env ++ ext).length) (by simp)]
      simp only
      split at h
      · rename_i h8
        rw [if_pos h8]
        exact tyB_at ks env ext _ _ τ h
      · rename_i h8
        rw [if_neg h8, inn_app]
        split at h
        · cases h
        · rename_i ts hts
          rw [tyL_at ks (inn x env) ext _ (j + 1) ts hts]
          exact rul_at ha h
theorem tyB_at : ∀ (ts : List T) (env ext : List Ty) (i j : Nat) (τ : Ty), tyB env ts i = .ok τ → tyB (env ++ ext) ts j = .ok τ
  | [], env, ext, i, j, τ, h => by rw [tyB] at h; cases h
  | a :: r, env, ext, i, j, τ, h => by
    rw [tyB] at h ⊢
    split at h
    · cases h
    · rename_i s hs
      rw [tyT_at a env ext _ j s hs]
      exact tyC_at r (s :: env) ext _ _ τ h
theorem tyC_at : ∀ (ts : List T) (env ext : List Ty) (i j : Nat) (τ : Ty), tyC env ts i = .ok τ → tyC (env ++ ext) ts j = .ok τ
  | [], env, ext, i, j, τ, h => by rw [tyC] at h; cases h
  | b :: r, env, ext, i, j, τ, h => by rw [tyC] at h ⊢; exact tyT_at b env ext _ j τ h
theorem tyL_at : ∀ (ts : List T) (env ext : List Ty) (i j : Nat) (us : List Ty), tyL env ts i = .ok us → tyL (env ++ ext) ts j = .ok us
  | [], env, ext, i, j, us, h => by rw [tyL] at h ⊢; exact h
  | t :: r, env, ext, i, j, us, h => by
    rw [tyL] at h ⊢
    split at h
    · cases h
    · rename_i a ha
      rw [tyT_at t env ext _ j a ha]
      simp only
      split at h
      · cases h
      · rename_i b hb
        rw [tyL_at r env ext _ (j + (flat t).length) b hb]
        exact h
end
/-- A closed term has its type anywhere. -/
theorem closed_at {t : T} {s : Ty} (h : tyT [] t 0 = .ok s) (env : List Ty) (j : Nat) : tyT env t j = .ok s := by
  have := tyT_at t [] env 0 j s h
  simpa using this
/-- A list that checks is a closed term. -/
theorem check_term {l : List Nd} {s : Ty} (h : check l = .ok s) : ∃ t, l = flat t ∧ wfC t ∧ high t ≤ 1024 ∧ tyT [] t 0 = .ok s ∧ l.length ≤ 16384 := by
  unfold check at h
  split at h
  · cases h
  · rename_i hl
    split at h
    · cases h
    · rename_i t ht
      obtain ⟨h1, h2, h3⟩ := shape_ok ht
      exact ⟨t, h1, h2, h3, h, by omega⟩
theorem term_check {t : T} (hw : wfC t) (hh : high t ≤ 1024) (hl : (flat t).length ≤ 16384) : check (flat t) = tyT [] t 0 := by
  unfold check
  rw [if_neg (by omega), shape_flat hw hh]
end Co
end Go.Proofs.Ytnhihajhhlilfaa
