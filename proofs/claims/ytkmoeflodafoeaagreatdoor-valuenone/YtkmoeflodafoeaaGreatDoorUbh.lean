/- Coercions as plain trees: which meet, and two of them, one behind the other, as one. Nothing of the program is named here. Coercions, plain: what two are as one begins and ends as they do, may be, is no higher and no larger; one behind another is associative. -/

namespace Go.Proofs.YtkmoeflodafoeaaGreatDoor
set_option maxRecDepth 100000
set_option linter.unusedVariables false
set_option linter.unusedSimpArgs false
namespace Cc

/-- The three heads with two kids: function, pair, box. -/
inductive K where
  | fn | pr | bx
deriving DecidableEq
/-- The heads. -/
inductive H where
  | hi | hb | ht | ls | tw (k : K)
deriving DecidableEq
/-- A coercion. -/
inductive C where
  | any
  | bs (p : Int) (j : Bool) (h : H)
  | fl (p : Int) (h : H) (l : Int) (t : H)
  | ls (p : Int) (j : Bool) (a : C)
  | tw (k : K) (p : Int) (j : Bool) (a b : C)
deriving DecidableEq

def proj : C → Int
  | .any => 0
  | .bs p _ _ => p
  | .fl p _ _ _ => p
  | .ls p _ _ => p
  | .tw _ p _ _ _ => p
def inj : C → Bool
  | .any => false
  | .bs _ j _ => j
  | .fl _ _ _ _ => false
  | .ls _ j _ => j
  | .tw _ _ j _ _ => j
def head : C → H
  | .any => .hi
  | .bs _ _ h => h
  | .fl _ h _ _ => h
  | .ls _ _ _ => .ls
  | .tw k _ _ _ _ => .tw k
/-- It begins in ?. -/
def beg : C → Bool
  | .any => true
  | c => proj c != 0
/-- It ends in ?; what fails does. -/
def fin : C → Bool
  | .any => true
  | .fl .. => true
  | c => inj c
/-- Does the first, does the second kid go the other way round? -/
def t0 : K → Bool
  | .fn => true
  | _ => false
def t1 : K → Bool
  | .bx => true
  | _ => false
def meets : C → C → Bool
  | .fl .., _ => true
  | .any, t => beg t
  | s, .any => fin s
  | .bs _ j h, .bs q _ g => (j == (q != 0)) && (if h = g then true else j)
  | .bs _ j h, .fl q g _ _ => (j == (q != 0)) && (if h = g then true else j)
  | .bs _ j _, .ls q _ _ => (j == (q != 0)) && j
  | .bs _ j _, .tw _ q _ _ _ => (j == (q != 0)) && j
  | .ls _ j _, .bs q _ _ => (j == (q != 0)) && j
  | .ls _ j _, .fl q g _ _ => (j == (q != 0)) && (if g = .ls then true else j)
  | .ls _ j a, .ls q _ c => (j == (q != 0)) && meets a c
  | .ls _ j _, .tw _ q _ _ _ => (j == (q != 0)) && j
  | .tw _ _ j _ _, .bs q _ _ => (j == (q != 0)) && j
  | .tw k _ j _ _, .fl q g _ _ => (j == (q != 0)) && (if g = .tw k then true else j)
  | .tw _ _ j _ _, .ls q _ _ => (j == (q != 0)) && j
  | .tw k _ j a b, .tw m q _ c d => (j == (q != 0)) && (if k = m then (if t0 k then meets c a else meets a c) && (if t1 k then meets d b else meets b d) else j)
termination_by s t => sizeOf s + sizeOf t
def thn : C → C → C
  | .fl p h l t, _ => .fl p h l t
  | s, .any => s
  | .any, t => t
  | .bs p _ h, .bs q i g => if h = g then .bs p i h else .fl p h q g
  | .bs p _ h, .fl q g l t => if h = g then .fl p g l t else .fl p h q g
  | .bs p _ h, .ls q _ _ => .fl p h q .ls
  | .bs p _ h, .tw k q _ _ _ => .fl p h q (.tw k)
  | .ls p _ _, .bs q _ g => .fl p .ls q g
  | .ls p _ _, .fl q g l t => if g = .ls then .fl p g l t else .fl p .ls q g
  | .ls p _ a, .ls q i c => .ls p i (thn a c)
  | .ls p _ _, .tw k q _ _ _ => .fl p .ls q (.tw k)
  | .tw k p _ _ _, .bs q _ g => .fl p (.tw k) q g
  | .tw k p _ _ _, .fl q g l t => if g = .tw k then .fl p g l t else .fl p (.tw k) q g
  | .tw k p _ _ _, .ls q _ _ => .fl p (.tw k) q .ls
  | .tw k p _ a b, .tw m q i c d => if k = m then .tw k p i (if t0 k then thn c a else thn a c) (if t1 k then thn d b else thn b d) else .fl p (.tw k) q (.tw m)
termination_by s t => sizeOf s + sizeOf t
/-- It may be, its height and its labels' range aside: base heads, what begins or ends in ? goes there by a ground. -/
def gr : C → Prop
  | .any => True
  | .bs _ _ h => h = .hi ∨ h = .hb ∨ h = .ht
  | .fl _ h l t => l ≠ 0 ∧ t ≠ h
  | .ls p j a => gr a ∧ (p ≠ 0 → beg a = true) ∧ (j = true → fin a = true)
  | .tw k p j a b => gr a ∧ gr b ∧
      (p ≠ 0 → (if t0 k then fin a else beg a) = true ∧ (if t1 k then fin b else beg b) = true) ∧
      (j = true → (if t0 k then beg a else fin a) = true ∧ (if t1 k then beg b else fin b) = true)
def high : C → Nat
  | .ls _ _ a => high a + 1
  | .tw _ _ _ a b => max (high a) (high b) + 1
  | _ => 1
def size : C → Nat
  | .ls _ _ a => size a + 1
  | .tw _ _ _ a b => size a + size b + 1
  | _ => 1
theorem high_pos (c : C) : 1 ≤ high c := by cases c <;> simp [high]
theorem size_high (c : C) : size c + 1 ≤ 2 ^ high c := by
  induction c with
  | any => simp [size, high]
  | bs => simp [size, high]
  | fl => simp [size, high]
  | ls p j a ih => simp only [size, high, Nat.pow_succ]; omega
  | tw k p j a b ia ib =>
    simp only [size, high, Nat.pow_succ]
    have h1 := Nat.pow_le_pow_right (n := 2) (by omega) (Nat.le_max_left (high a) (high b))
    have h2 := Nat.pow_le_pow_right (n := 2) (by omega) (Nat.le_max_right (high a) (high b))
    omega
theorem thn_any (s : C) : thn s .any = s := by cases s <;> simp [thn]
theorem any_thn (t : C) : thn .any t = t := by cases t <;> simp [thn]
theorem fl_thn (p : Int) (h : H) (l : Int) (t : H) (u : C) : thn (.fl p h l t) u = .fl p h l t := by cases u <;> simp [thn]
theorem fl_meets (p : Int) (h : H) (l : Int) (t : H) (u : C) : meets (.fl p h l t) u = true := by cases u <;> simp [meets]
/-- What ends in ? and what begins in it meet. -/
theorem meets_dyn : ∀ (s t : C), gr s → gr t → fin s = true → beg t = true → meets s t = true
  | .fl .., t, _, _, _, _ => by simp [fl_meets]
  | .any, t, _, _, _, hb => by cases t <;> simpa [meets] using hb
  | .bs _ j h, t, _, _, hf, hb => by cases t <;> simp_all [meets, fin, beg, inj, proj]
  | .ls p j a, .ls q i c, hs, ht, hf, hb => by
    simp only [fin, inj, beg, proj, bne_iff_ne] at hf hb
    have := meets_dyn a c hs.1 ht.1 (hs.2.2 hf) (ht.2.1 hb)
    simp [meets, hf, hb, this]
  | .ls p j a, .any, hs, ht, hf, hb => by simpa [meets] using hf
  | .ls p j a, .bs .., hs, ht, hf, hb => by simp_all [meets, fin, beg, inj, proj]
  | .ls p j a, .fl .., hs, ht, hf, hb => by simp_all [meets, fin, beg, inj, proj]
  | .ls p j a, .tw .., hs, ht, hf, hb => by simp_all [meets, fin, beg, inj, proj]
  | .tw k p j a b, .any, hs, ht, hf, hb => by simpa [meets] using hf
  | .tw k p j a b, .bs .., hs, ht, hf, hb => by simp_all [meets, fin, beg, inj, proj]
  | .tw k p j a b, .fl .., hs, ht, hf, hb => by simp_all [meets, fin, beg, inj, proj]
  | .tw k p j a b, .ls .., hs, ht, hf, hb => by simp_all [meets, fin, beg, inj, proj]
  | .tw k p j a b, .tw m q i c d, hs, ht, hf, hb => by
    simp only [fin, inj, beg, proj, bne_iff_ne] at hf hb
    by_cases hk : k = m
    · subst hk
      obtain ⟨g1, g2, _, g4⟩ := hs
      obtain ⟨e1, e2, e3, _⟩ := ht
      have g4 := g4 hf
      have e3 := e3 hb
      have hb' : (q != 0) = true := by simpa using hb
      rw [meets, hf, hb', if_pos rfl]
      cases k
      · simp only [t0, t1, if_true, if_false, Bool.false_eq_true] at g4 e3 ⊢
        rw [meets_dyn c a e1 g1 e3.1 g4.1, meets_dyn b d g2 e2 g4.2 e3.2]
        rfl
      · simp only [t0, t1, if_true, if_false, Bool.false_eq_true] at g4 e3 ⊢
        rw [meets_dyn a c g1 e1 g4.1 e3.1, meets_dyn b d g2 e2 g4.2 e3.2]
        rfl
      · simp only [t0, t1, if_true, if_false, Bool.false_eq_true] at g4 e3 ⊢
        rw [meets_dyn a c g1 e1 g4.1 e3.1, meets_dyn d b e2 g2 e3.2 g4.2]
        rfl
    · simp [meets, hf, hb, hk]
termination_by s t => sizeOf s + sizeOf t
end Cc
end Go.Proofs.YtkmoeflodafoeaaGreatDoor
namespace Go.Proofs.YtkmoeflodafoeaaGreatDoor
set_option maxRecDepth 100000
set_option linter.unusedVariables false
set_option linter.unusedSimpArgs false
namespace Cc

theorem beg_thn (s t : C) (h : meets s t = true) : beg (thn s t) = beg s := by
  cases s <;> cases t <;> simp only [thn] <;> (repeat' split) <;> simp_all [meets, beg, fin, proj, inj]
theorem fin_thn (s t : C) (h : meets s t = true) (hf : fin t = true) : fin (thn s t) = true := by
  cases s <;> cases t <;> simp only [thn] <;> (repeat' split) <;> simp_all [meets, beg, fin, proj, inj]
theorem high_thn : ∀ (s t : C), high (thn s t) ≤ max (high s) (high t)
  | .fl .., t => by rw [fl_thn]; simp [high]; omega
  | .any, t => by rw [any_thn]; omega
  | .bs .., t => by have := high_pos t; cases t <;> simp [thn, high] <;> (try split) <;> simp [high] <;> omega
  | .ls p j a, .ls q i c => by have := high_thn a c; simp [thn, high]; omega
  | .ls p j a, .any => by simp [thn]; omega
  | .ls p j a, .bs .. => by simp [thn, high]
  | .ls p j a, .fl .. => by simp [thn]; split <;> simp [high]
  | .ls p j a, .tw .. => by simp [thn, high]
  | .tw k p j a b, .any => by simp [thn]; omega
  | .tw k p j a b, .bs .. => by simp [thn, high]
  | .tw k p j a b, .fl .. => by simp [thn]; split <;> simp [high]
  | .tw k p j a b, .ls .. => by simp [thn, high]
  | .tw k p j a b, .tw m q i c d => by
    have h1 := high_thn a c
    have h2 := high_thn c a
    have h3 := high_thn b d
    have h4 := high_thn d b
    rw [thn]
    split
    · cases k <;> simp [t0, t1, high] <;> omega
    · simp [high]
termination_by s t => sizeOf s + sizeOf t
theorem size_pos (c : C) : 1 ≤ size c := by cases c <;> simp [size]
theorem size_thn : ∀ (s t : C), size (thn s t) ≤ size s + size t
  | .fl .., t => by rw [fl_thn]; simp [size]
  | .any, t => by rw [any_thn]; simp [size]
  | .bs .., t => by have := size_pos t; cases t <;> simp [thn, size] <;> (try split) <;> simp [size] <;> omega
  | .ls p j a, .ls q i c => by have := size_thn a c; simp [thn, size]; omega
  | .ls p j a, .any => by simp [thn]
  | .ls p j a, .bs .. => by simp [thn, size]
  | .ls p j a, .fl .. => by simp [thn]; split <;> simp [size]
  | .ls p j a, .tw .. => by simp [thn, size]; omega
  | .tw k p j a b, .any => by simp [thn]
  | .tw k p j a b, .bs .. => by simp [thn, size]
  | .tw k p j a b, .fl .. => by simp [thn]; split <;> simp [size]
  | .tw k p j a b, .ls .. => by simp [thn, size]; omega
  | .tw k p j a b, .tw m q i c d => by
    have h1 := size_thn a c
    have h2 := size_thn c a
    have h3 := size_thn b d
    have h4 := size_thn d b
    rw [thn]
    split
    · cases k <;> simp [t0, t1, size] <;> omega
    · simp [size]; omega
termination_by s t => sizeOf s + sizeOf t
theorem mis {j : Bool} {q : Int} (h : ((j == (q != 0)) && j) = true) : q ≠ 0 := by cases j <;> simp_all
theorem meets_any (x : C) : meets x .any = fin x := by cases x <;> simp [meets, fin, beg, inj]
theorem any_meets (x : C) : meets .any x = beg x := by cases x <;> simp [meets, beg]
theorem gr_thn : ∀ (s t : C), gr s → gr t → meets s t = true → gr (thn s t)
  | .fl p h l g, t, hs, ht, hm => by rw [fl_thn]; exact hs
  | .any, t, hs, ht, hm => by rw [any_thn]; exact ht
  | .bs p j h, .any, hs, ht, hm => by rw [thn_any]; exact hs
  | .bs p j h, .bs q i g, hs, ht, hm => by
    rw [thn]
    split
    · exact hs
    · rename_i e
      rw [meets, if_neg e] at hm
      exact ⟨mis hm, fun x => e x.symm⟩
  | .bs p j h, .fl q g l t, hs, ht, hm => by
    rw [thn]
    split
    · exact ht
    · rename_i e
      rw [meets, if_neg e] at hm
      exact ⟨mis hm, fun x => e x.symm⟩
  | .bs p j h, .ls q i c, hs, ht, hm => by
    rw [meets] at hm
    rw [thn]
    exact ⟨mis hm, fun x => by rcases hs with e | e | e <;> simp [e] at x⟩
  | .bs p j h, .tw k q i c d, hs, ht, hm => by
    rw [meets] at hm
    rw [thn]
    exact ⟨mis hm, fun x => by rcases hs with e | e | e <;> simp [e] at x⟩
  | .ls p j a, .ls q i c, hs, ht, hm => by
    simp only [meets, Bool.and_eq_true] at hm
    have h1 := gr_thn a c hs.1 ht.1 hm.2
    simp only [thn, gr]
    exact ⟨h1, fun e => by rw [beg_thn a c hm.2]; exact hs.2.1 e, fun e => fin_thn a c hm.2 (ht.2.2 e)⟩
  | .ls p j a, .any, hs, ht, hm => by rw [thn_any]; exact hs
  | .ls p j a, .bs q i g, hs, ht, hm => by
    rw [meets] at hm
    rw [thn]
    exact ⟨mis hm, fun x => by rcases ht with e | e | e <;> simp [e] at x⟩
  | .ls p j a, .fl q g l' t, hs, ht, hm => by
    rw [thn]
    split
    · exact ht
    · rename_i e
      rw [meets, if_neg e] at hm
      exact ⟨mis hm, e⟩
  | .ls p j a, .tw k q i c d, hs, ht, hm => by
    rw [meets] at hm
    rw [thn]
    exact ⟨mis hm, fun x => by cases x⟩
  | .tw k p j a b, .any, hs, ht, hm => by rw [thn_any]; exact hs
  | .tw k p j a b, .bs q i g, hs, ht, hm => by
    rw [meets] at hm
    rw [thn]
    exact ⟨mis hm, fun x => by rcases ht with e | e | e <;> simp [e] at x⟩
  | .tw k p j a b, .fl q g l' t, hs, ht, hm => by
    rw [thn]
    split
    · exact ht
    · rename_i e
      rw [meets, if_neg e] at hm
      exact ⟨mis hm, e⟩
  | .tw k p j a b, .ls q i c, hs, ht, hm => by
    rw [meets] at hm
    rw [thn]
    exact ⟨mis hm, fun x => by cases x⟩
  | .tw k p j a b, .tw m q i c d, hs, ht, hm => by
    by_cases hk : k = m
    · subst hk
      obtain ⟨g1, g2, g3, g4⟩ := hs
      obtain ⟨e1, e2, e3, e4⟩ := ht
      rw [meets, if_pos rfl] at hm
      rw [thn, if_pos rfl]
      simp only [gr]
      cases k
      · simp only [t0, t1, if_true, if_false, Bool.false_eq_true, Bool.and_eq_true] at hm g3 g4 e3 e4 ⊢
        exact ⟨gr_thn c a e1 g1 hm.2.1, gr_thn b d g2 e2 hm.2.2, fun e => ⟨fin_thn c a hm.2.1 (g3 e).1, by rw [beg_thn b d hm.2.2]; exact (g3 e).2⟩, fun e => ⟨by rw [beg_thn c a hm.2.1]; exact (e4 e).1, fin_thn b d hm.2.2 (e4 e).2⟩⟩
      · simp only [t0, t1, if_true, if_false, Bool.false_eq_true, Bool.and_eq_true] at hm g3 g4 e3 e4 ⊢
        exact ⟨gr_thn a c g1 e1 hm.2.1, gr_thn b d g2 e2 hm.2.2, fun e => ⟨by rw [beg_thn a c hm.2.1]; exact (g3 e).1, by rw [beg_thn b d hm.2.2]; exact (g3 e).2⟩, fun e => ⟨fin_thn a c hm.2.1 (e4 e).1, fin_thn b d hm.2.2 (e4 e).2⟩⟩
      · simp only [t0, t1, if_true, if_false, Bool.false_eq_true, Bool.and_eq_true] at hm g3 g4 e3 e4 ⊢
        exact ⟨gr_thn a c g1 e1 hm.2.1, gr_thn d b e2 g2 hm.2.2, fun e => ⟨by rw [beg_thn a c hm.2.1]; exact (g3 e).1, fin_thn d b hm.2.2 (g3 e).2⟩, fun e => ⟨fin_thn a c hm.2.1 (e4 e).1, by rw [beg_thn d b hm.2.2]; exact (e4 e).2⟩⟩
    · rw [meets, if_neg hk] at hm
      rw [thn, if_neg hk]
      exact ⟨mis hm, fun x => hk (by cases x; rfl)⟩
termination_by s t => sizeOf s + sizeOf t
end Cc
end Go.Proofs.YtkmoeflodafoeaaGreatDoor
