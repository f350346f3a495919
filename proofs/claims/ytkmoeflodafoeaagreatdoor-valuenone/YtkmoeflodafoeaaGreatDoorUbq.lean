/- Coercions, plain: one behind another is associative, where things meet. -/
import Derived.Test.YtkmoeflodafoeaaGreatDoorUbh
namespace Go.Proofs.YtkmoeflodafoeaaGreatDoor
set_option maxRecDepth 100000
set_option linter.unusedVariables false
set_option linter.unusedSimpArgs false
namespace Cc

def solid : C → Bool
  | .any => false
  | .fl .. => false
  | _ => true
def some' : C → Bool
  | .any => false
  | _ => true
theorem hd_thn (t u : C) (h : some' t = true) : head (thn t u) = head t ∧ proj (thn t u) = proj t ∧ some' (thn t u) = true := by
  cases t <;> cases u <;> simp only [thn] <;> (repeat' split) <;> simp_all [head, proj, some']
theorem meets_mis (s x : C) (hs : solid s = true) (hx : some' x = true) (h : head s ≠ head x) : meets s x = ((inj s == (proj x != 0)) && inj s) := by
  have h' := Ne.symm h
  cases s <;> cases x <;> simp_all [meets, solid, some', head, inj, proj]
theorem thn_mis (s x : C) (hs : solid s = true) (hx : some' x = true) (h : head s ≠ head x) : thn s x = .fl (proj s) (head s) (proj x) (head x) := by
  have h' := Ne.symm h
  cases s <;> cases x <;> simp_all [thn, solid, some', head, inj, proj]
/-- What associativity says. -/
def Asc (s t u : C) : Prop := meets (thn s t) u = true ∧ meets s (thn t u) = true ∧ thn (thn s t) u = thn s (thn t u)
theorem asc_mis {s t u : C} (hs : solid s = true) (ht : some' t = true) (h : head s ≠ head t) (h1 : meets s t = true) : Asc s t u := by
  obtain ⟨e1, e2, e3⟩ := hd_thn t u ht
  have h' : head s ≠ head (thn t u) := by rw [e1]; exact h
  unfold Asc
  rw [thn_mis s t hs ht h, thn_mis s (thn t u) hs e3 h', meets_mis s (thn t u) hs e3 h', fl_meets, fl_thn, e1, e2]
  rw [meets_mis s t hs ht h] at h1
  exact ⟨rfl, h1, rfl⟩
theorem asc_sany (t u : C) (h1 : meets .any t = true) (h2 : meets t u = true) : Asc .any t u :=
  ⟨by rw [any_thn]; exact h2, by rw [any_meets, beg_thn t u h2]; rwa [any_meets] at h1, by rw [any_thn, any_thn]⟩
theorem asc_sfl (p : Int) (h : H) (l : Int) (g : H) (t u : C) : Asc (.fl p h l g) t u :=
  ⟨by rw [fl_thn, fl_meets], fl_meets .., by rw [fl_thn, fl_thn, fl_thn]⟩
theorem asc_uany (s t : C) (h1 : meets s t = true) (h2 : meets t .any = true) : Asc s t .any :=
  ⟨by rw [meets_any]; exact fin_thn s t h1 (by rwa [meets_any] at h2), by rw [thn_any]; exact h1, by rw [thn_any, thn_any]⟩
theorem asc_tfl (s : C) (p : Int) (h : H) (l : Int) (g : H) (u : C) (h1 : meets s (.fl p h l g) = true) : Asc s (.fl p h l g) u := by
  unfold Asc
  rw [fl_thn]
  refine ⟨?_, h1, ?_⟩
  · cases s <;> simp only [thn] <;> (repeat' split) <;> simp [fl_meets]
  · cases s <;> simp only [thn] <;> (repeat' split) <;> simp [fl_thn]
/-- The second mismatches the third. -/
theorem asc_mis2 {s t u : C} (ht : solid t = true) (hu : some' u = true) (h : head t ≠ head u) (h2 : meets t u = true)
    (hst : solid (thn s t) = true) (hh : head (thn s t) = head t) (hp : proj (thn s t) = proj s) (hi : inj (thn s t) = inj t)
    (hf : ∀ l g, meets s (.fl (proj t) (head t) l g) = true ∧ thn s (.fl (proj t) (head t) l g) = .fl (proj s) (head t) l g) : Asc s t u := by
  have h' : head (thn s t) ≠ head u := by rw [hh]; exact h
  unfold Asc
  rw [thn_mis t u ht hu h, meets_mis _ u hst hu h', thn_mis _ u hst hu h', hh, hp, hi, (hf _ _).1, (hf _ _).2]
  rw [meets_mis t u ht hu h] at h2
  exact ⟨h2, rfl, rfl⟩

theorem assoc : ∀ (t s u : C), gr s → gr t → gr u → meets s t = true → meets t u = true → Asc s t u
  | .any, s, u, hs, ht, hu, h1, h2 => by
    unfold Asc
    rw [thn_any, any_thn]
    rw [meets_any] at h1
    rw [any_meets] at h2
    exact ⟨meets_dyn s u hs hu h1 h2, meets_dyn s u hs hu h1 h2, rfl⟩
  | .fl p h l g, s, u, hs, ht, hu, h1, h2 => asc_tfl s p h l g u h1
  | .bs p j h, .any, u, hs, ht, hu, h1, h2 => asc_sany _ u h1 h2
  | .bs p j h, .fl .., u, hs, ht, hu, h1, h2 => asc_sfl ..
  | .bs p j h, .ls .., u, hs, ht, hu, h1, h2 => asc_mis rfl rfl (by intro e; simp [head] at e; rcases ht with x | x | x <;> simp [x] at e) h1
  | .bs p j h, .tw .., u, hs, ht, hu, h1, h2 => asc_mis rfl rfl (by intro e; simp [head] at e; rcases ht with x | x | x <;> simp [x] at e) h1
  | .bs p j h, .bs p' j' h', u, hs, ht, hu, h1, h2 => by
    by_cases e : h' = h
    · subst e
      cases u with
      | any => exact asc_uany _ _ h1 h2
      | bs q i g => unfold Asc; simp_all [meets, thn]; by_cases e : h' = g <;> simp_all [meets, thn] <;> (obtain ⟨x1, x2⟩ := h2; rw [x1] at x2; simpa using x2)
      | fl q g l r => unfold Asc; simp_all [meets, thn]; by_cases e : h' = g <;> simp_all [meets, thn] <;> (obtain ⟨x1, x2⟩ := h2; rw [x1] at x2; simpa using x2)
      | ls q i c => unfold Asc; simp_all [meets, thn] <;> (obtain ⟨x1, x2⟩ := h2; rw [x1] at x2; simpa using x2)
      | tw k q i c d => unfold Asc; simp_all [meets, thn] <;> (obtain ⟨x1, x2⟩ := h2; rw [x1] at x2; simpa using x2)
    · exact asc_mis rfl rfl (by simpa [head] using e) h1
  | .ls p j a, .any, u, hs, ht, hu, h1, h2 => asc_sany _ u h1 h2
  | .ls p j a, .fl .., u, hs, ht, hu, h1, h2 => asc_sfl ..
  | .ls p j a, .bs .., u, hs, ht, hu, h1, h2 => asc_mis rfl rfl (by intro e; simp [head] at e; rcases hs with x | x | x <;> simp [x] at e) h1
  | .ls p j a, .tw .., u, hs, ht, hu, h1, h2 => asc_mis rfl rfl (by simp [head]) h1
  | .ls p j a, .ls p' j' a', .any, hs, ht, hu, h1, h2 => asc_uany _ _ h1 h2
  | .ls p j a, .ls p' j' a', .bs .., hs, ht, hu, h1, h2 => by unfold Asc; simp_all [meets, thn] <;> (obtain ⟨x1, x2⟩ := h2; rw [x1] at x2; simpa using x2)
  | .ls p j a, .ls p' j' a', .tw .., hs, ht, hu, h1, h2 => by unfold Asc; simp_all [meets, thn] <;> (obtain ⟨x1, x2⟩ := h2; rw [x1] at x2; simpa using x2)
  | .ls p j a, .ls p' j' a', .fl q g l r, hs, ht, hu, h1, h2 => by unfold Asc; simp_all [meets, thn]; by_cases e : g = .ls <;> simp_all [meets, thn] <;> (obtain ⟨x1, x2⟩ := h2; rw [x1] at x2; simpa using x2)
  | .ls p j a, .ls p' j' a', .ls q i c, hs, ht, hu, h1, h2 => by
    simp only [meets, Bool.and_eq_true] at h1 h2
    obtain ⟨k1, k2, k3⟩ := assoc a a' c hs.1 ht.1 hu.1 h1.2 h2.2
    unfold Asc
    simp only [meets, thn, k1, k2, k3, h1.1, h2.1, Bool.and_self, and_self]
  | .tw k p j a b, .any, u, hs, ht, hu, h1, h2 => asc_sany _ u h1 h2
  | .tw k p j a b, .fl .., u, hs, ht, hu, h1, h2 => asc_sfl ..
  | .tw k p j a b, .bs .., u, hs, ht, hu, h1, h2 => asc_mis rfl rfl (by intro e; simp [head] at e; rcases hs with x | x | x <;> simp [x] at e) h1
  | .tw k p j a b, .ls .., u, hs, ht, hu, h1, h2 => asc_mis rfl rfl (by simp [head]) h1
  | .tw k p j a b, .tw k' p' j' a' b', u, hs, ht, hu, h1, h2 => by
    by_cases e : k' = k
    · subst e
      have h1' := h1
      rw [meets, if_pos rfl] at h1
      have hj : (j' == (p != 0)) = true := by revert h1; cases (j' == (p != 0)) <;> simp
      have hthn : thn (.tw k' p' j' a' b') (.tw k' p j a b) = .tw k' p' j (if t0 k' then thn a a' else thn a' a) (if t1 k' then thn b b' else thn b' b) := by rw [thn, if_pos rfl]
      by_cases hd : some' u = true ∧ head (C.tw k' p j a b) ≠ head u
      · exact asc_mis2 rfl hd.1 hd.2 h2 (by rw [hthn]; rfl) (by rw [hthn]; rfl) (by rw [hthn]; rfl) (by rw [hthn]; rfl) (fun l g => ⟨by simp [meets, proj, head, hj], by simp [thn, proj, head]⟩)
      cases u with
      | any => exact asc_uany _ _ h1' h2
      | bs q i g => exact absurd ⟨rfl, by intro x; simp [head] at x; rcases hu with y | y | y <;> simp [y] at x⟩ hd
      | ls q i c => exact absurd ⟨rfl, by simp [head]⟩ hd
      | fl q g l r =>
        have hg : g = .tw k' := Classical.byContradiction fun x => hd ⟨rfl, fun y => x (by simp [head] at y; exact y.symm)⟩
        subst hg
        unfold Asc
        rw [hthn]
        simp_all [meets, thn]
      | tw m q i c d =>
        have hm : m = k' := Classical.byContradiction fun x => hd ⟨rfl, fun y => x (by simp [head] at y; exact y.symm)⟩
        subst hm
        rw [meets, if_pos rfl] at h2
        obtain ⟨g1, g2, _, _⟩ := hs
        obtain ⟨f1, f2, _, _⟩ := ht
        obtain ⟨e1, e2, _, _⟩ := hu
        unfold Asc
        rw [hthn]
        cases m
        · simp only [t0, t1, if_true, if_false, Bool.false_eq_true, Bool.and_eq_true] at h1 h2 ⊢
          obtain ⟨k1, k2, k3⟩ := assoc a c a' e1 f1 g1 h2.2.1 h1.2.1
          obtain ⟨k4, k5, k6⟩ := assoc b b' d g2 f2 e2 h1.2.2 h2.2.2
          simp [meets, thn, t0, t1, k1, k2, k3, k4, k5, k6, h1.1, h2.1]
          first | done | (simp_all)
        · simp only [t0, t1, if_true, if_false, Bool.false_eq_true, Bool.and_eq_true] at h1 h2 ⊢
          obtain ⟨k1, k2, k3⟩ := assoc a a' c g1 f1 e1 h1.2.1 h2.2.1
          obtain ⟨k4, k5, k6⟩ := assoc b b' d g2 f2 e2 h1.2.2 h2.2.2
          simp [meets, thn, t0, t1, k1, k2, k3, k4, k5, k6, h1.1, h2.1]
          first | done | (simp_all)
        · simp only [t0, t1, if_true, if_false, Bool.false_eq_true, Bool.and_eq_true] at h1 h2 ⊢
          obtain ⟨k1, k2, k3⟩ := assoc a a' c g1 f1 e1 h1.2.1 h2.2.1
          obtain ⟨k4, k5, k6⟩ := assoc b d b' e2 f2 g2 h2.2.2 h1.2.2
          simp [meets, thn, t0, t1, k1, k2, k3, k4, k5, k6, h1.1, h2.1]
          first | done | (simp_all)
    · exact asc_mis rfl rfl (by simpa [head] using e) h1
termination_by t => sizeOf t
end Cc
end Go.Proofs.YtkmoeflodafoeaaGreatDoor
