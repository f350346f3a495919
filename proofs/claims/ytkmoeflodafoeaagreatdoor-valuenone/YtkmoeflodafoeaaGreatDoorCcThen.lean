/- Coercions, plain: what two are as one begins and ends as they do, may be, is no higher and no larger; one behind another is associative. -/
import Derived.Test.YtkmoeflodafoeaaGreatDoorCcSpec
namespace Go.Proofs.YtkmoeflodafoeaaGreatDoor
set_option maxRecDepth 100000
set_option linter.unusedVariables false
set_option linter.unusedSimpArgs false
namespace Cc

theorem beg_thn (s t : C) (h : meets s t = true) : beg (thn s t) = beg s := by
  cases s <;> cases t <;> simp only [thn] <;> (repeat' split) <;> simp_all [meets, beg, fin, proj, inj]
theorem fin_thn (s t : C) (h : meets s t = true) (hf : fin t = true) : fin (thn s t) = true := by
  cases s <;> cases t <;> simp only [thn] <;> (repeat' split) <;> simp_all [meets, beg, fin, proj, inj]
theorem high_thn : ∀ (s t : C), high (thn s t) ≤ max (high s) (high t)
  | .fl .., t => by rw [fl_thn]; simp [high]; omega
  | .any, t => by rw [any_thn]; omega
  | .bs .., t => by have := high_pos t; cases t <;> simp [thn, high] <;> (try split) <;> simp [high] <;> omega
  | .ls p j a, .ls q i c => by have := high_thn a c; simp [thn, high]; omega
  | .ls p j a, .any => by simp [thn]; omega
  | .ls p j a, .bs .. => by simp [thn, high]
  | .ls p j a, .fl .. => by simp [thn]; split <;> simp [high]
  | .ls p j a, .tw .. => by simp [thn, high]
  | .tw k p j a b, .any => by simp [thn]; omega
  | .tw k p j a b, .bs .. => by simp [thn, high]
  | .tw k p j a b, .fl .. => by simp [thn]; split <;> simp [high]
  | .tw k p j a b, .ls .. => by simp [thn, high]
  | .tw k p j a b, .tw m q i c d => by
    have h1 := high_thn a c
    have h2 := high_thn c a
    have h3 := high_thn b d
    have h4 := high_thn d b
    rw [thn]
    split
    · cases k <;> simp [t0, t1, high] <;> omega
    · simp [high]
termination_by s t => sizeOf s + sizeOf t
theorem size_pos (c : C) : 1 ≤ size c := by cases c <;> simp [size]
theorem size_thn : ∀ (s t : C), size (thn s t) ≤ size s + size t
  | .fl .., t => by rw [fl_thn]; simp [size]
  | .any, t => by rw [any_thn]; simp [size]
  | .bs .., t => by have := size_pos t; cases t <;> simp [thn, size] <;> (try split) <;> simp [size] <;> omega
  | .ls p j a, .ls q i c => by have := size_thn a c; simp [thn, size]; omega
  | .ls p j a, .any => by simp [thn]
  | .ls p j a, .bs .. => by simp [thn, size]
  | .ls p j a, .fl .. => by simp [thn]; split <;> simp [size]
  | .ls p j a, .tw .. => by simp [thn, size]; omega
  | .tw k p j a b, .any => by simp [thn]
  | .tw k p j a b, .bs .. => by simp [thn, size]
  | .tw k p j a b, .fl .. => by simp [thn]; split <;> simp [size]
  | .tw k p j a b, .ls .. => by simp [thn, size]; omega
  | .tw k p j a b, .tw m q i c d => by
    have h1 := size_thn a c
    have h2 := size_thn c a
    have h3 := size_thn b d
    have h4 := size_thn d b
    rw [thn]
    split
    · cases k <;> simp [t0, t1, size] <;> omega
    · simp [size]; omega
termination_by s t => sizeOf s + sizeOf t
theorem mis {j : Bool} {q : Int} (h : ((j == (q != 0)) && j) = true) : q ≠ 0 := by cases j <;> simp_all
theorem meets_any (x : C) : meets x .any = fin x := by cases x <;> simp [meets, fin, beg, inj]
theorem any_meets (x : C) : meets .any x = beg x := by cases x <;> simp [meets, beg]
theorem gr_thn : ∀ (s t : C), gr s → gr t → meets s t = true → gr (thn s t)
  | .fl p h l g, t, hs, ht, hm => by rw [fl_thn]; exact hs
  | .any, t, hs, ht, hm => by rw [any_thn]; exact ht
  | .bs p j h, .any, hs, ht, hm => by rw [thn_any]; exact hs
  | .bs p j h, .bs q i g, hs, ht, hm => by
    rw [thn]
    split
    · exact hs
    · rename_i e
      rw [meets, if_neg e] at hm
      exact ⟨mis hm, fun x => e x.symm⟩
  | .bs p j h, .fl q g l t, hs, ht, hm => by
    rw [thn]
    split
    · exact ht
    · rename_i e
      rw [meets, if_neg e] at hm
      exact ⟨mis hm, fun x => e x.symm⟩
  | .bs p j h, .ls q i c, hs, ht, hm => by
    rw [meets] at hm
    rw [thn]
    exact ⟨mis hm, fun x => by rcases hs with e | e | e <;> simp [e] at x⟩
  | .bs p j h, .tw k q i c d, hs, ht, hm => by
    rw [meets] at hm
    rw [thn]
    exact ⟨mis hm, fun x => by rcases hs with e | e | e <;> simp [e] at x⟩
  | .ls p j a, .ls q i c, hs, ht, hm => by
    simp only [meets, Bool.and_eq_true] at hm
    have h1 := gr_thn a c hs.1 ht.1 hm.2
    simp only [thn, gr]
    exact ⟨h1, fun e => by rw [beg_thn a c hm.2]; exact hs.2.1 e, fun e => fin_thn a c hm.2 (ht.2.2 e)⟩
  | .ls p j a, .any, hs, ht, hm => by rw [thn_any]; exact hs
  | .ls p j a, .bs q i g, hs, ht, hm => by
    rw [meets] at hm
    rw [thn]
    exact ⟨mis hm, fun x => by rcases ht with e | e | e <;> simp [e] at x⟩
  | .ls p j a, .fl q g l' t, hs, ht, hm => by
    rw [thn]
    split
    · exact ht
    · rename_i e
      rw [meets, if_neg e] at hm
      exact ⟨mis hm, e⟩
  | .ls p j a, .tw k q i c d, hs, ht, hm => by
    rw [meets] at hm
    rw [thn]
    exact ⟨mis hm, fun x => by cases x⟩
  | .tw k p j a b, .any, hs, ht, hm => by rw [thn_any]; exact hs
  | .tw k p j a b, .bs q i g, hs, ht, hm => by
    rw [meets] at hm
    rw [thn]
    exact ⟨mis hm, fun x => by rcases ht with e | e | e <;> simp [e] at x⟩
  | .tw k p j a b, .fl q g l' t, hs, ht, hm => by
    rw [thn]
    split
    · exact ht
    · rename_i e
      rw [meets, if_neg e] at hm
      exact ⟨mis hm, e⟩
  | .tw k p j a b, .ls q i c, hs, ht, hm => by
    rw [meets] at hm
    rw [thn]
    exact ⟨mis hm, fun x => by cases x⟩
  | .tw k p j a b, .tw m q i c d, hs, ht, hm => by
    by_cases hk : k = m
    · subst hk
      obtain ⟨g1, g2, g3, g4⟩ := hs
      obtain ⟨e1, e2, e3, e4⟩ := ht
      rw [meets, if_pos rfl] at hm
      rw [thn, if_pos rfl]
      simp only [gr]
      cases k
      · simp only [t0, t1, if_true, if_false, Bool.false_eq_true, Bool.and_eq_true] at hm g3 g4 e3 e4 ⊢
        exact ⟨gr_thn c a e1 g1 hm.2.1, gr_thn b d g2 e2 hm.2.2, fun e => ⟨fin_thn c a hm.2.1 (g3 e).1, by rw [beg_thn b d hm.2.2]; exact (g3 e).2⟩, fun e => ⟨by rw [beg_thn c a hm.2.1]; exact (e4 e).1, fin_thn b d hm.2.2 (e4 e).2⟩⟩
      · simp only [t0, t1, if_true, if_false, Bool.false_eq_true, Bool.and_eq_true] at hm g3 g4 e3 e4 ⊢
        exact ⟨gr_thn a c g1 e1 hm.2.1, gr_thn b d g2 e2 hm.2.2, fun e => ⟨by rw [beg_thn a c hm.2.1]; exact (g3 e).1, by rw [beg_thn b d hm.2.2]; exact (g3 e).2⟩, fun e => ⟨fin_thn a c hm.2.1 (e4 e).1, fin_thn b d hm.2.2 (e4 e).2⟩⟩
      · simp only [t0, t1, if_true, if_false, Bool.false_eq_true, Bool.and_eq_true] at hm g3 g4 e3 e4 ⊢
        exact ⟨gr_thn a c g1 e1 hm.2.1, gr_thn d b e2 g2 hm.2.2, fun e => ⟨by rw [beg_thn a c hm.2.1]; exact (g3 e).1, fin_thn d b hm.2.2 (g3 e).2⟩, fun e => ⟨fin_thn a c hm.2.1 (e4 e).1, by rw [beg_thn d b hm.2.2]; exact (e4 e).2⟩⟩
    · rw [meets, if_neg hk] at hm
      rw [thn, if_neg hk]
      exact ⟨mis hm, fun x => hk (by cases x; rfl)⟩
termination_by s t => sizeOf s + sizeOf t
end Cc
end Go.Proofs.YtkmoeflodafoeaaGreatDoor
