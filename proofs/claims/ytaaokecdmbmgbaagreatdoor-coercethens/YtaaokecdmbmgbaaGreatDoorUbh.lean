/- The document's Meets, whole. The document's Both, plain; and trees whose kids may lie in either of two places. The document's Meets: of Both, early. The document's Meets: Both, early. The document's Meets: Both, early. -/
import Derived.Test.YtaaokecdmbmgbaaGreatDoorUbg
import Derived.Test.YtaaokecdmbmgbaaGreatDoorUbf
import Derived.Test.YtaaokecdmbmgbaaGreatDoorUbd
import Derived.StillTailTactics
namespace Go.Proofs.YtaaokecdmbmgbaaGreatDoor
open Go.RowKit Cc
set_option maxRecDepth 100000
set_option linter.unusedSimpArgs false
set_option linter.unusedVariables false
namespace Cc
theorem meets_kidQ {s t : C} (gs : gr s) (gt : gr t) (h7 : (nod s).op ≠ 7) (h1 : (nod s).op ≠ 1) (g7 : (nod t).op ≠ 7) (g1 : (nod t).op ≠ 1) (hE : fin0 (nod s) = begN (nod t)) (hh : (nod s).head = (nod t).head) : meets s t = kidsMeet s t := by
  rw [meets_nod gs gt, meetQ, if_neg h7, if_neg (by rintro (h | h); exact h1 h; exact g1 h), if_neg (by simpa using hE), if_neg (by simpa using hh), if_neg g7]
/-- Two of one shape. -/
inductive Same2 : C → C → Prop
  | bs (p j h q i) : Same2 (.bs p j h) (.bs q i h)
  | ls (p j a q i c) : Same2 (.ls p j a) (.ls q i c)
  | tw (k p j a b q i c d) : Same2 (.tw k p j a b) (.tw k q i c d)
theorem same2 {s t : C} (gs : gr s) (gt : gr t) (h7 : (nod s).op ≠ 7) (h1 : (nod s).op ≠ 1) (g7 : (nod t).op ≠ 7) (g1 : (nod t).op ≠ 1) (hh : (nod s).head = (nod t).head) : Same2 s t := by
  cases s with
  | any => exact absurd rfl h1
  | fl => exact absurd rfl h7
  | bs p j h =>
    cases t with
    | any => exact absurd rfl g1
    | fl => exact absurd rfl g7
    | bs q i g =>
      obtain rfl : h = g := hB_inj hh
      exact .bs ..
    | ls q i c => exact absurd (hB_inj (a := h) (b := .ls) hh) (ne_ls gs)
    | tw m q i c d => exact absurd (hB_inj (a := h) (b := .tw m) hh) (ne_tw gs m)
  | ls p j a =>
    cases t with
    | any => exact absurd rfl g1
    | fl => exact absurd rfl g7
    | bs q i g => exact absurd (hB_inj (a := g) (b := .ls) hh.symm) (ne_ls gt)
    | ls q i c => exact .ls ..
    | tw m q i c d => exact absurd (hB_inj (a := .ls) (b := .tw m) hh) (by simp)
  | tw k p j a b =>
    cases t with
    | any => exact absurd rfl g1
    | fl => exact absurd rfl g7
    | bs q i g => exact absurd (hB_inj (a := g) (b := .tw k) hh.symm) (ne_tw gt k)
    | ls q i c => exact absurd (hB_inj (a := .tw k) (b := .ls) hh) (by simp)
    | tw m q i c d =>
      obtain rfl : k = m := by have := hB_inj (a := .tw k) (b := .tw m) hh; injection this
      exact .tw ..
theorem At8.ofRow2 {w : World} {g : Nat} {a b : C} {ka kb : Value} (h : Row8 w g [(a, ka), (b, kb)]) : At8 w g 0 (nod a) ka ∧ At8 w g 8 (nod b) kb := by
  have h0 := h.at (k := 0) (c := a) (kv := ka) rfl
  have h1 := h.at (k := 1) (c := b) (kv := kb) rfl
  exact ⟨by simpa using h0, by simpa using h1⟩
end Cc
theorem dMeets_all : ∀ n, MeC n := by
  intro n
  induction n with
  | zero => intro s t vs vt w hsz; have := size_pos s; omega
  | succ n ih =>
  intro s t vs vt w hsz gs gt h2
  by_cases he : (nod s).op = 7 ∨ ((nod s).op = 1 ∨ (nod t).op = 1) ∨ fin0 (nod s) ≠ begN (nod t) ∨ (nod s).head ≠ (nod t).head ∨ (nod t).op = 7
  · exact me_early s t vs vt w gs gt h2 he
  have h7 : (nod s).op ≠ 7 := fun h => he (.inl h)
  have h1 : (nod s).op ≠ 1 := fun h => he (.inr (.inl (.inl h)))
  have g1 : (nod t).op ≠ 1 := fun h => he (.inr (.inl (.inr h)))
  have hE : fin0 (nod s) = begN (nod t) := by
    by_cases e : fin0 (nod s) = begN (nod t)
    · exact e
    · exact absurd (.inr (.inr (.inl e))) he
  have hh : (nod s).head = (nod t).head := by
    by_cases e : (nod s).head = (nod t).head
    · exact e
    · exact absurd (.inr (.inr (.inr (.inl e)))) he
  have g7 : (nod t).op ≠ 7 := fun h => he (.inr (.inr (.inr (.inr h))))
  have hM := meets_kidQ gs gt h7 h1 g7 g1 hE hh
  have hS := same2 gs gt h7 h1 g7 g1 hh
  rw [hM]
  clear he hM
  obtain ⟨⟨lo, hi, hds, hhi⟩, ⟨lo', hi', hdt, hhi'⟩⟩ := h2
  have K : ∀ (x y : C) (vx vy : Value) {l1 u1 l2 u2 : Nat}, size x + size y ≤ n → gr x → gr y → DT w l1 u1 x vx → u1 ≤ w.heap.size → DT w l2 u2 y vy → u2 ≤ w.heap.size → ∀ W, Below w.heap.size w W →
      Calls Tryz.prog 9 #[tree (nod x) vx, tree (nod y) vy] W fun e w' => e = .returned (.bool (meets x y)) ∧ Below W.heap.size W w' :=
    fun x y vx vy l1 u1 l2 u2 hz gx gy d1 q1 d2 q2 W hW => ih x y vx vy W hz gx gy ⟨⟨l1, u1, d1.below q1 hW, Nat.le_trans q1 hW.size⟩, ⟨l2, u2, d2.below q2 hW, Nat.le_trans q2 hW.size⟩⟩
  cases hS with
  | bs p j h q i =>
    obtain rfl : vs = .slice none 0 0 := hds
    obtain rfl : vt = .slice none 0 0 := hdt
    exact me_loop _ _ none none 0 0 0 [] [] w true rfl rfl rfl (by omega) h7 h1 g7 g1 hE hh (by simp [nod, sh, shN]) (by simp [nod, sh, shN]) (fun h => absurd rfl h) (fun h => absurd rfl h) (by simp) (by simp) (by simp)
  | ls p j a q i c =>
    obtain ⟨g, cap, ka, rfl, a1, a2, a3, a4⟩ := hds
    obtain ⟨g', cap', kc, rfl, b1, b2, b3, b4⟩ := hdt
    refine me_loop _ _ _ _ 1 cap cap' [(a, ka)] [(c, kc)] w _ (by simp [kidsMeet, mz]) rfl rfl (by omega) h7 h1 g7 g1 hE hh (by simp [nod, sh, shN]) (by simp [nod, sh, shN]) (fun _ => ⟨g, rfl, by omega, a3⟩) (fun _ => ⟨g', rfl, by omega, b3⟩) ?_ ?_ ?_
    · simpa using a4.form
    · simpa using b4.form
    · intro k x vx y vy hx hy W hW
      match k, hx, hy with
      | 0, hx, hy =>
        obtain ⟨rfl, rfl⟩ : a = x ∧ ka = vx := by simpa using hx
        obtain ⟨rfl, rfl⟩ : c = y ∧ kc = vy := by simpa using hy
        exact K a c ka kc (by simp only [size] at hsz; omega) gs.1 gt.1 a4 hhi b4 hhi' W hW
      | k + 1, hx, hy => simp at hx
  | tw k p j a b q i c d =>
    obtain ⟨g, cap, ka, kb, rfl, a1, a2, a3, a4, a5⟩ := hds
    obtain ⟨g', cap', kc, kd, rfl, b1, b2, b3, b4, b5⟩ := hdt
    simp only [size] at hsz
    obtain ⟨r0, r1⟩ := At8.ofRow2 a3
    obtain ⟨r2, r3⟩ := At8.ofRow2 b3
    have f0 := a4.form
    have f1 := a5.form
    have f2 := b4.form
    have f3 := b5.form
    obtain ⟨ka0, ka1, ka2, rfl⟩ := f0
    obtain ⟨kb0, kb1, kb2, rfl⟩ := f1
    obtain ⟨kc0, kc1, kc2, rfl⟩ := f2
    obtain ⟨kd0, kd1, kd2, rfl⟩ := f3
    cases k with
    | fn =>
      rw [show kidsMeet (.tw .fn p j a b) (.tw .fn q i c d) = (meets c a && meets b d) by simp [kidsMeet, t0, t1]]
      exact me_fn _ _ a b c d g g' 2 cap cap' _ _ _ _ _ _ _ _ _ _ _ _ w _ _ rfl h7 h1 g7 g1 hE hh rfl (by omega) (by omega) r0 r1 r2 r3
        (K c a _ _ (by omega) gt.1 gs.1 b4 hhi' a4 hhi) (K b d _ _ (by omega) gs.2.1 gt.2.1 a5 hhi b5 hhi')
    | bx =>
      rw [show kidsMeet (.tw .bx p j a b) (.tw .bx q i c d) = (meets a c && meets d b) by simp [kidsMeet, t0, t1]]
      exact me_bx _ _ a b c d g g' 2 cap cap' _ _ _ _ _ _ _ _ _ _ _ _ w _ _ rfl h7 h1 g7 g1 hE hh rfl (by omega) (by omega) r0 r1 r2 r3
        (K a c _ _ (by omega) gs.1 gt.1 a4 hhi b4 hhi') (K d b _ _ (by omega) gt.2.1 gs.2.1 b5 hhi' a5 hhi)
    | pr =>
      rw [show kidsMeet (.tw .pr p j a b) (.tw .pr q i c d) = (meets a c && meets b d) by simp [kidsMeet, t0, t1]]
      refine me_loop _ _ _ _ 2 cap cap' [(a, _), (b, _)] [(c, _), (d, _)] w _ (by simp [mz]) rfl rfl (by omega) h7 h1 g7 g1 hE hh (by simp [nod, sh, shN, opK]) (by simp [nod, sh, shN, opK]) (fun _ => ⟨g, rfl, by omega, a3⟩) (fun _ => ⟨g', rfl, by omega, b3⟩) (by simp) (by simp) ?_
      intro k x vx y vy hx hy W hW
      match k, hx, hy with
      | 0, hx, hy =>
        obtain ⟨rfl, rfl⟩ : a = x ∧ _ = vx := by simpa using hx
        obtain ⟨rfl, rfl⟩ : c = y ∧ _ = vy := by simpa using hy
        exact K a c _ _ (by omega) gs.1 gt.1 a4 hhi b4 hhi' W hW
      | 1, hx, hy =>
        obtain ⟨rfl, rfl⟩ : b = x ∧ _ = vx := by simpa using hx
        obtain ⟨rfl, rfl⟩ : d = y ∧ _ = vy := by simpa using hy
        exact K b d _ _ (by omega) gs.2.1 gt.2.1 a5 hhi b5 hhi' W hW
      | k + 2, hx, hy => simp at hx
/-- THE DOCUMENT'S MEETS IS meets. -/
theorem dMeets_any (s t : C) (vs vt : Value) (w : World) (gs : gr s) (gt : gr t) (h2 : DT2 w s t vs vt) :
    Calls Tryz.prog 9 #[tree (nod s) vs, tree (nod t) vt] w fun e w' => e = .returned (.bool (meets s t)) ∧ Below w.heap.size w w' :=
  dMeets_all _ s t vs vt w (Nat.le_refl _) gs gt h2
end Go.Proofs.YtaaokecdmbmgbaaGreatDoor
namespace Go.Proofs.YtaaokecdmbmgbaaGreatDoor
open Go.RowKit Cc
set_option maxRecDepth 100000
set_option linter.unusedSimpArgs false
set_option linter.unusedVariables false
namespace Cc
theorem thn_s {s t : C} (h : (nod s).op = 7 ∨ (nod t).op = 1) : thn s t = s := by
  cases s <;> cases t <;> simp_all [nod, sh, shN, thn, opK_ne]
theorem thn_t {s t : C} (h : (nod s).op = 1) : thn s t = t := by
  cases s with
  | any => cases t <;> simp [thn]
  | tw k p j a b => exact absurd h (opK_ne k).2
  | _ => simp [nod, sh, shN] at h
/-- A fail from the one's head to the other's. -/
theorem thn_diff {s t : C} (gs : gr s) (gt : gr t) (h7 : (nod s).op ≠ 7) (h1 : (nod s).op ≠ 1) (g1 : (nod t).op ≠ 1) (hd : (nod s).head ≠ (nod t).head) :
    (∃ p h q g, thn s t = .fl p h q g) ∧ nod (thn s t) = ⟨7, (nod s).proj, false, (nod s).head, (nod t).proj, (nod s).head, (nod t).head⟩ := by
  cases s with
  | any => exact absurd rfl h1
  | fl => exact absurd rfl h7
  | bs p j h =>
    cases t with
    | any => exact absurd rfl g1
    | bs q i g =>
      have e : h ≠ g := fun e => hd (by rw [e]; rfl)
      rw [thn, if_neg e]; exact ⟨⟨_, _, _, _, rfl⟩, rfl⟩
    | fl q g l u =>
      have e : h ≠ g := fun e => hd (by rw [e]; rfl)
      rw [thn, if_neg e]; exact ⟨⟨_, _, _, _, rfl⟩, rfl⟩
    | ls q i c => rw [thn]; exact ⟨⟨_, _, _, _, rfl⟩, rfl⟩
    | tw m q i c d => rw [thn]; exact ⟨⟨_, _, _, _, rfl⟩, rfl⟩
  | ls p j a =>
    cases t with
    | any => exact absurd rfl g1
    | bs q i g => rw [thn]; exact ⟨⟨_, _, _, _, rfl⟩, rfl⟩
    | fl q g l u =>
      have e : ¬ g = .ls := fun e => hd (by rw [e]; rfl)
      rw [thn, if_neg e]; exact ⟨⟨_, _, _, _, rfl⟩, rfl⟩
    | ls q i c => exact absurd rfl hd
    | tw m q i c d => rw [thn]; exact ⟨⟨_, _, _, _, rfl⟩, rfl⟩
  | tw k p j a b =>
    cases t with
    | any => exact absurd rfl g1
    | bs q i g => rw [thn]; exact ⟨⟨_, _, _, _, rfl⟩, rfl⟩
    | fl q g l u =>
      have e : ¬ g = .tw k := fun e => hd (by rw [e]; rfl)
      rw [thn, if_neg e]; exact ⟨⟨_, _, _, _, rfl⟩, rfl⟩
    | ls q i c => rw [thn]; exact ⟨⟨_, _, _, _, rfl⟩, rfl⟩
    | tw m q i c d =>
      have e : ¬ k = m := fun e => hd (by rw [e]; rfl)
      rw [thn, if_neg e]; exact ⟨⟨_, _, _, _, rfl⟩, rfl⟩
theorem thn_flB {s t : C} (h7 : (nod s).op ≠ 7) (h1 : (nod s).op ≠ 1) (g7 : (nod t).op = 7) (hd : (nod s).head = (nod t).head) :
    (∃ p h q g, thn s t = .fl p h q g) ∧ nod (thn s t) = ⟨(nod t).op, (nod s).proj, (nod t).inj, (nod t).head, (nod t).label, (nod t).frm, (nod t).tto⟩ := by
  cases t with
  | fl q g l u =>
    cases s with
    | any => exact absurd rfl h1
    | fl => exact absurd rfl h7
    | bs p j h =>
      obtain rfl : h = g := hB_inj hd
      rw [thn, if_pos rfl]; exact ⟨⟨_, _, _, _, rfl⟩, rfl⟩
    | ls p j a =>
      obtain rfl : g = .ls := hB_inj (a := g) (b := .ls) hd.symm
      rw [thn, if_pos rfl]; exact ⟨⟨_, _, _, _, rfl⟩, rfl⟩
    | tw k p j a b =>
      obtain rfl : g = .tw k := hB_inj hd.symm
      rw [thn, if_pos rfl]; exact ⟨⟨_, _, _, _, rfl⟩, rfl⟩
  | tw k q i c d => exact absurd g7 (opK_ne k).1
  | _ => simp [nod, sh, shN] at g7
theorem thn_same {s t : C} (h : Same2 s t) : nod (thn s t) = ⟨(nod s).op, (nod s).proj, (nod t).inj, (nod s).head, 0, 0, 0⟩ ∧ (kidsC (thn s t)).length = (kidsC s).length ∧ (kidsC t).length = (kidsC s).length ∧
    ∀ (k : Nat) (a c : C), (kidsC s)[k]? = some a → (kidsC t)[k]? = some c → (kidsC (thn s t))[k]? = some (if trn (nod s).op k then thn c a else thn a c) := by
  cases h with
  | bs p j h q i => rw [thn, if_pos rfl]; exact ⟨rfl, rfl, rfl, by simp [kidsC]⟩
  | ls p j a q i c =>
    rw [thn]
    refine ⟨rfl, rfl, rfl, ?_⟩
    intro k x y hx hy
    match k, hx, hy with
    | 0, hx, hy =>
      obtain rfl : a = x := by simpa [kidsC] using hx
      obtain rfl : c = y := by simpa [kidsC] using hy
      simp [kidsC, nod, sh, shN, trn]
    | k + 1, hx, hy => simp [kidsC] at hx
  | tw k p j a b q i c d =>
    rw [thn, if_pos rfl]
    refine ⟨rfl, rfl, rfl, ?_⟩
    intro m x y hx hy
    match m, hx, hy with
    | 0, hx, hy =>
      obtain rfl : a = x := by simpa [kidsC] using hx
      obtain rfl : c = y := by simpa [kidsC] using hy
      cases k <;> simp [kidsC, nod, sh, shN, trn, opK, t0]
    | 1, hx, hy =>
      obtain rfl : b = x := by simpa [kidsC] using hx
      obtain rfl : d = y := by simpa [kidsC] using hy
      cases k <;> simp [kidsC, nod, sh, shN, trn, opK, t1]
    | m + 2, hx, hy => simp [kidsC] at hx
/-- What lies in memory of a tree's kids; of all blocks that is true. -/
def DQ (w : World) (P : Nat → Prop) : C → Value → Prop
  | .ls _ _ a, v => ∃ g cap ka, v = .slice (some ⟨g, 0, none⟩) 1 cap ∧ P g ∧ Row8 w g [(a, ka)] ∧ DQ w P a ka
  | .tw _ _ _ a b, v => ∃ g cap ka kb, v = .slice (some ⟨g, 0, none⟩) 2 cap ∧ P g ∧ Row8 w g [(a, ka), (b, kb)] ∧ DQ w P a ka ∧ DQ w P b kb
  | _, v => v = .slice none 0 0
theorem DQ.keep {w w' : World} {P P' : Nat → Prop} (hk : ∀ g, P g → w'.heap[g]? = w.heap[g]? ∧ P' g) : ∀ {c : C} {v : Value}, DQ w P c v → DQ w' P' c v
  | .any, v, h => h
  | .bs .., v, h => h
  | .fl .., v, h => h
  | .ls _ _ a, v, h => by
    obtain ⟨g, cap, ka, e, h1, h3, h4⟩ := h
    exact ⟨g, cap, ka, e, (hk g h1).2, h3.keep (hk g h1).1, DQ.keep hk h4⟩
  | .tw _ _ _ a b, v, h => by
    obtain ⟨g, cap, ka, kb, e, h1, h3, h4, h5⟩ := h
    exact ⟨g, cap, ka, kb, e, (hk g h1).2, h3.keep (hk g h1).1, DQ.keep hk h4, DQ.keep hk h5⟩
theorem DQ.ofDT {w : World} {lo hi : Nat} : ∀ {c : C} {v : Value}, DT w lo hi c v → DQ w (fun g => lo ≤ g ∧ g < hi) c v
  | .any, v, h => h
  | .bs .., v, h => h
  | .fl .., v, h => h
  | .ls _ _ a, v, h => by
    obtain ⟨g, cap, ka, e, h1, h2, h3, h4⟩ := h
    exact ⟨g, cap, ka, e, ⟨h1, h2⟩, h3, DQ.ofDT h4⟩
  | .tw _ _ _ a b, v, h => by
    obtain ⟨g, cap, ka, kb, e, h1, h2, h3, h4, h5⟩ := h
    exact ⟨g, cap, ka, kb, e, ⟨h1, h2⟩, h3, DQ.ofDT h4, DQ.ofDT h5⟩
theorem DQ.toDT {w : World} {P : Nat → Prop} {lo hi : Nat} (hP : ∀ g, P g → lo ≤ g ∧ g < hi) : ∀ {c : C} {v : Value}, DQ w P c v → DT w lo hi c v
  | .any, v, h => h
  | .bs .., v, h => h
  | .fl .., v, h => h
  | .ls _ _ a, v, h => by
    obtain ⟨g, cap, ka, e, h1, h3, h4⟩ := h
    exact ⟨g, cap, ka, e, (hP g h1).1, (hP g h1).2, h3, DQ.toDT hP h4⟩
  | .tw _ _ _ a b, v, h => by
    obtain ⟨g, cap, ka, kb, e, h1, h3, h4, h5⟩ := h
    exact ⟨g, cap, ka, kb, e, (hP g h1).1, (hP g h1).2, h3, DQ.toDT hP h4, DQ.toDT hP h5⟩
theorem DQ.of_row {w : World} {P : Nat → Prop} {c : C} {a : Option Addr} {cap : Nat} {ks : List (C × Value)} (h0 : ks.map Prod.fst = kidsC c) (hd : ∀ k ∈ ks, DQ w P k.1 k.2) (hz : ks = [] → (a = none ∧ cap = 0)) (hr : ks ≠ [] → ∃ g, a = some ⟨g, 0, none⟩ ∧ P g ∧ Row8 w g ks) : DQ w P c (.slice a ks.length cap) := by
  cases c with
  | ls p j d =>
    match ks, h0 with
    | [(d', ka)], h0 =>
      obtain rfl : d' = d := by simpa [kidsC] using h0
      obtain ⟨g, e, a1, a3⟩ := hr (by simp)
      exact ⟨g, cap, ka, by rw [e]; rfl, a1, a3, by simpa using hd⟩
  | tw k p j d f =>
    match ks, h0 with
    | [(d', ka), (f', kb)], h0 =>
      obtain ⟨rfl, rfl⟩ : d' = d ∧ f' = f := by simpa [kidsC] using h0
      obtain ⟨g, e, a1, a3⟩ := hr (by simp)
      have := hd
      simp only [List.mem_cons, List.mem_nil_iff, or_false, forall_eq_or_imp, forall_eq] at this
      exact ⟨g, cap, ka, kb, by rw [e]; rfl, a1, a3, this.1, this.2⟩
  | any => obtain rfl : ks = [] := by simpa [kidsC] using h0
           obtain ⟨rfl, rfl⟩ := hz rfl; rfl
  | bs p j h => obtain rfl : ks = [] := by simpa [kidsC] using h0
                obtain ⟨rfl, rfl⟩ := hz rfl; rfl
  | fl p h l t => obtain rfl : ks = [] := by simpa [kidsC] using h0
                  obtain ⟨rfl, rfl⟩ := hz rfl; rfl
/-- Between kids: the result's cell, the tree's cell, the kids so far; L: where the arguments' kids end. -/
structure Bk (w0 w : World) (L B6 B8 base : Nat) (x : N) (kv : Value) (ks : List (C × Value)) : Prop where
  bl : Below w0.heap.size w0 w
  z6 : w.heap[B6]? = some (.cells (tcells ⟨0, 0, false, 0, 0, 0, 0⟩ (.slice none 0 0)) 31 (0, 0))
  h8 : w.heap[B8]? = some (.cells (tcells x kv) 31 (0, 0))
  hL : L ≤ B6
  lo6 : w0.heap.size ≤ B8
  l68 : B6 < B8
  l8b : B8 < base
  bs : base ≤ w.heap.size
  own : w.ownsRow base 31 8 kv ks.length (drow ks)
  kid : ∀ p ∈ ks, ∃ P : Nat → Prop, (∀ g, P g → (g < L ∨ (base ≤ g ∧ g < w.heap.size)) ∧ kv.ownBlock ≠ some g) ∧ DQ w P p.1 p.2
  nil : ks = [] → kv = .slice none 0 0
theorem Bk.next {w0 w w' : World} {L B6 B8 base : Nat} {x : N} {kv : Value} {ks : List (C × Value)} (h : Bk w0 w L B6 B8 base x kv ks) (hB : Below w.heap.size w w') : Bk w0 w' L B6 B8 base x kv ks := by
  have l1 := h.l68; have l2 := h.l8b; have l3 := h.bs; have l4 := h.hL; have l5 := h.lo6
  refine ⟨h.bl.trans (hB.mono h.bl.size), (hB.block B6 (by omega)).trans h.z6, (hB.block B8 (by omega)).trans h.h8, h.hL, h.lo6, h.l68, h.l8b, Nat.le_trans h.bs hB.size, ?_, ?_, h.nil⟩
  · refine ⟨h.own.1, ?_⟩
    rcases h.own.2 with e | ⟨g, cap, cur, e1, e2, e3, e4⟩
    · exact .inl e
    · exact .inr ⟨g, cap, cur, e1, e2, (hB.block g (Array.getElem?_eq_some_iff.1 e3).1).trans e3, e4⟩
  · intro p hp
    obtain ⟨P, a1, a2⟩ := h.kid p hp
    have hs := hB.size
    refine ⟨P, fun g hg => ⟨?_, (a1 g hg).2⟩, a2.keep fun g hg => ⟨hB.block g ?_, hg⟩⟩
    · have := (a1 g hg).1; omega
    · have := (a1 g hg).1; omega
theorem Bk.size {w0 w : World} {L B6 B8 base : Nat} {x : N} {kv : Value} {ks : List (C × Value)} (h : Bk w0 w L B6 B8 base x kv ks) : B8 < w.heap.size := Nat.lt_of_lt_of_le h.l8b h.bs
/-- A kid more: w: where it was made from; w3: where it has been made; w5: where it is appended from; w6: behind that. -/
theorem Bk.app {w0 w w3 w5 w6 : World} {L B6 B8 base : Nat} {x : N} {kv kv' : Value} {ks : List (C × Value)} {d : C} {kd : Value} (h : Bk w0 w L B6 B8 base x kv ks) (h3 : Below w.heap.size w w3) (h5 : Below w3.heap.size w3 w5)
    (hd : DQ w3 (fun g => g < L ∨ (w.heap.size ≤ g ∧ g < w3.heap.size)) d kd) (ho : w6.ownsRow base 31 8 kv' (ks.length + 1) (drow ks ++ drow [(d, kd)])) (hg : w5.grownBy w6 kv.ownBlock) (hv : ∀ g, kv'.ownBlock = some g → kv.ownBlock = some g ∨ g = w5.heap.size) :
    Bk w0 (w6.setCell ⟨B8, 7, none⟩ kv') L B6 B8 base x kv' (ks ++ [(d, kd)]) := by
  have h5' := h.next (h3.trans (h5.mono h3.size))
  have l1 := h.l68; have l2 := h.l8b; have l3 := h.bs; have l4 := h5'.bs; have l5 := hg.size; have l6 := h.hL; have l7 := h.lo6
  have lt := World.ownsRow.lt h.own
  have lt5 := World.ownsRow.lt h5'.own
  have blk : ∀ k, k < w5.heap.size → kv.ownBlock ≠ some k → k ≠ B8 → (w6.setCell ⟨B8, 7, none⟩ kv').heap[k]? = w5.heap[k]? := fun k h1 h2 h3 =>
    (Below.heap_setCell _ _ _ _ h3).trans (hg.block k h1 fun e => h2 e.symm)
  have n8 : w6.heap[B8]? = some (.cells (tcells x kv) 31 (0, 0)) := (hg.block B8 h5'.size fun e => by have := (lt5 B8 e.symm).1; omega).trans h5'.h8
  have ss : (w6.setCell ⟨B8, 7, none⟩ kv').heap.size = w6.heap.size := by simp [World.setCell]
  have s3 := h3.size; have s5 := h5.size
  refine ⟨?_, ?_, ?_, h.hL, h.lo6, h.l68, h.l8b, by omega, ?_, ?_, fun e => by simp at e⟩
  · exact (h5'.bl.grown hg h5'.bl.size (fun k e => by have := (lt5 k e).1; omega)).setCell (by show w0.heap.size ≤ B8; omega) _
  · exact (blk B6 (by omega) (fun e => by have := (lt5 B6 e).1; omega) (by omega)).trans h5'.z6
  · rw [heap_setCell_same _ _ _ _ _ _ n8]
    simp [tcells]
  · rw [List.length_append, List.length_singleton, drow_app]
    refine ⟨ho.1, ?_⟩
    rcases ho.2 with e | ⟨g, cap, cur, e1, e2, e3, e4⟩
    · exact .inl e
    · exact .inr ⟨g, cap, cur, e1, e2, (Below.heap_setCell _ _ _ _ (by show g ≠ B8; omega)).trans e3, e4⟩
  · intro p hp
    rw [List.mem_append, List.mem_singleton] at hp
    rcases hp with hp | rfl
    · obtain ⟨P, a1, a2⟩ := h.kid p hp
      refine ⟨P, fun g hg => ⟨by have := (a1 g hg).1; omega, fun e => ?_⟩, a2.keep fun g hg => ⟨?_, hg⟩⟩
      · rcases hv g e with e | e
        · exact (a1 g hg).2 e
        · have := (a1 g hg).1; omega
      · have q := (a1 g hg).1
        exact (blk g (by omega) (a1 g hg).2 (by omega)).trans ((h3.trans (h5.mono h3.size)).block g (by omega))
    · refine ⟨_, fun g hg => ⟨?_, fun e => ?_⟩, hd.keep fun g hg => ⟨?_, hg⟩⟩
      · have q : g < L ∨ (w.heap.size ≤ g ∧ g < w3.heap.size) := hg; omega
      · have q : g < L ∨ (w.heap.size ≤ g ∧ g < w3.heap.size) := hg
        rcases hv g e with e | e
        · have := lt g e; omega
        · omega
      · have q : g < L ∨ (w.heap.size ≤ g ∧ g < w3.heap.size) := hg
        exact (blk g (by omega) (fun e => by have := lt g e; omega) (by omega)).trans (h5.block g (by omega))
/-- The kids, as the tree's. -/
theorem Bk.tree {w0 w : World} {L B6 B8 base : Nat} {x : N} {kv : Value} {ks : List (C × Value)} {c : C} (h : Bk w0 w L B6 B8 base x kv ks) (hc : ks.map Prod.fst = kidsC c) : DQ w (fun g => g < L ∨ (base ≤ g ∧ g < w.heap.size)) c kv := by
  have hk : ∀ p ∈ ks, DQ w (fun g => g < L ∨ (base ≤ g ∧ g < w.heap.size)) p.1 p.2 := fun p hp => by
    obtain ⟨P, a1, a2⟩ := h.kid p hp
    exact a2.keep fun g hg => ⟨rfl, (a1 g hg).1⟩
  rcases h.own.2 with ⟨e, hn⟩ | ⟨g, cap, cur, e1, e2, e3, e4⟩
  · obtain rfl : ks = [] := List.eq_nil_of_length_eq_zero hn
    rw [e]
    exact DQ.of_row (ks := []) hc hk (fun _ => ⟨rfl, rfl⟩) (fun h => absurd rfl h)
  · have ho := h.own
    rw [e1] at ho ⊢
    refine DQ.of_row hc hk (fun e => ?_) (fun _ => ⟨g, rfl, .inr ⟨e2, (Array.getElem?_eq_some_iff.1 e3).1⟩, ?_⟩)
    · have := h.nil e; rw [e1] at this; cases this
    · intro j u hj
      have hj' : j < ks.length * 8 := by rw [← drow_len]; exact (List.getElem?_eq_some_iff.1 hj).1
      rw [World.ownsRow.cellAt ho j hj']
      exact hj
def BoE (L : Nat) (w : World) (c : C) (e : Ending) (w' : World) : Prop := ∃ a n k, e = .returned (tree (nod c) (.slice a n k)) ∧ DQ w' (fun g => g < L ∨ (w.heap.size ≤ g ∧ g < w'.heap.size)) c (.slice a n k)
def BoC (n : Nat) : Prop := ∀ (s t : C) (vs vt : Value) (w : World) (L : Nat), size s + size t ≤ n → gr s → gr t → meets s t = true → DT w 0 L s vs → DT w 0 L t vt → L ≤ w.heap.size →
  Calls Tryz.prog 31 #[tree (nod s) vs, tree (nod t) vt] w fun e w' => BoE L w (thn s t) e w' ∧ Below w.heap.size w w'
end Cc
end Go.Proofs.YtaaokecdmbmgbaaGreatDoor
namespace Go.Proofs.YtaaokecdmbmgbaaGreatDoor
open Go.RowKit Cc
set_option maxRecDepth 100000
set_option linter.unusedSimpArgs false
set_option linter.unusedVariables false
namespace Cc
theorem DT.ofDT {w : World} {lo hi : Nat} {c : C} {v : Value} (h : DT w lo hi c v) : DQ w (fun g => lo ≤ g ∧ g < hi) c v := DQ.ofDT h
end Cc
theorem dq_keep {w W9 : World} {L : Nat} {c : C} {v : Value} (h : DT w 0 L c v) (hL : L ≤ w.heap.size) (hB : Below w.heap.size w W9) : DQ W9 (fun g => g < L ∨ (w.heap.size ≤ g ∧ g < W9.heap.size)) c v :=
  h.ofDT.keep fun g hg => ⟨hB.block g (by have := hg.2; omega), .inl hg.2⟩
set_option maxHeartbeats 6400000 in
theorem bo_s (s t : C) (vs vt : Value) (w : World) (L : Nat) (gs : gr s) (gt : gr t) (hm : meets s t = true) (hds : DT w 0 L s vs) (hdt : DT w 0 L t vt) (hL : L ≤ w.heap.size)
    (h : (nod s).op = 7 ∨ (nod t).op = 1) :
    Calls Tryz.prog 31 #[tree (nod s) vs, tree (nod t) vt] w fun e w' => BoE L w (thn s t) e w' ∧ Below w.heap.size w w' := by
  obtain ⟨sa, sn, sc, rfl⟩ := hds.form
  obtain ⟨ta, tn, tc, rfl⟩ := hdt.form
  have HR : Aside (BoE L w (thn s t) = BoE L w s) := by rw [Aside, thn_s h]
  have HD : Aside (DT w 0 L s (.slice sa sn sc)) := hds
  have H1 : Aside ((nod s).op = 7 ∨ (nod t).op = 1) := h
  rw [HR.out]
  clear hm gs gt hds hdt h HR
  unfold BoE
  generalize nod s = x at *
  generalize nod t = y at *
  go_enter Tryz.func31, Tryz.ntmps31
  go_upto_region 1 with fail
  obtain ⟨W0, hW0⟩ : ∃ W0, W0 = ((w.alloc (.cells #[.int .i8 x.op, .int .i64 x.proj, .bool x.inj, .int .u8 x.head, .int .i64 x.label, .int .u8 x.frm, .int .u8 x.tto, .slice sa sn sc] 31)).alloc (.cells #[.int .i8 y.op, .int .i64 y.proj, .bool y.inj, .int .u8 y.head, .int .i64 y.label, .int .u8 y.frm, .int .u8 y.tto, .slice ta tn tc] 31)).alloc (.cells #[.int .i8 0, .int .i64 0, .bool false, .int .u8 0, .int .i64 0, .int .u8 0, .int .u8 0, .slice none 0 0] 31) := ⟨_, rfl⟩
  have hB0 : Below w.heap.size w W0 := by rw [hW0]; exact below_al (below_al (below_al (Below.refl _ _) (Nat.le_refl _) _) (by simp) _) (by simp; omega) _
  have hS0 : W0.heap[w.heap.size]? = some (.cells (tcells x (.slice sa sn sc)) 31 (0, 0)) := by
    rw [hW0]
    exact ((below_al (below_al (Below.refl _ _) (Nat.le_refl _) _) (by simp) _ : Below (w.alloc (.cells #[.int .i8 x.op, .int .i64 x.proj, .bool x.inj, .int .u8 x.head, .int .i64 x.label, .int .u8 x.frm, .int .u8 x.tto, .slice sa sn sc] 31)).heap.size (w.alloc (.cells #[.int .i8 x.op, .int .i64 x.proj, .bool x.inj, .int .u8 x.head, .int .i64 x.label, .int .u8 x.frm, .int .u8 x.tto, .slice sa sn sc] 31)) (((w.alloc (.cells #[.int .i8 x.op, .int .i64 x.proj, .bool x.inj, .int .u8 x.head, .int .i64 x.label, .int .u8 x.frm, .int .u8 x.tto, .slice sa sn sc] 31)).alloc (.cells #[.int .i8 y.op, .int .i64 y.proj, .bool y.inj, .int .u8 y.head, .int .i64 y.label, .int .u8 y.frm, .int .u8 y.tto, .slice ta tn tc] 31)).alloc (.cells #[.int .i8 0, .int .i64 0, .bool false, .int .u8 0, .int .i64 0, .int .u8 0, .int .u8 0, .slice none 0 0] 31))).block w.heap.size (by simp)).trans (heap_top w _)
  have hS1 : W0.heap[w.heap.size + 1]? = some (.cells (tcells y (.slice ta tn tc)) 31 (0, 0)) := by
    rw [hW0]
    have := ((below_al (Below.refl _ _) (Nat.le_refl _) _ : Below ((w.alloc (.cells #[.int .i8 x.op, .int .i64 x.proj, .bool x.inj, .int .u8 x.head, .int .i64 x.label, .int .u8 x.frm, .int .u8 x.tto, .slice sa sn sc] 31)).alloc (.cells #[.int .i8 y.op, .int .i64 y.proj, .bool y.inj, .int .u8 y.head, .int .i64 y.label, .int .u8 y.frm, .int .u8 y.tto, .slice ta tn tc] 31)).heap.size ((w.alloc (.cells #[.int .i8 x.op, .int .i64 x.proj, .bool x.inj, .int .u8 x.head, .int .i64 x.label, .int .u8 x.frm, .int .u8 x.tto, .slice sa sn sc] 31)).alloc (.cells #[.int .i8 y.op, .int .i64 y.proj, .bool y.inj, .int .u8 y.head, .int .i64 y.label, .int .u8 y.frm, .int .u8 y.tto, .slice ta tn tc] 31)) (((w.alloc (.cells #[.int .i8 x.op, .int .i64 x.proj, .bool x.inj, .int .u8 x.head, .int .i64 x.label, .int .u8 x.frm, .int .u8 x.tto, .slice sa sn sc] 31)).alloc (.cells #[.int .i8 y.op, .int .i64 y.proj, .bool y.inj, .int .u8 y.head, .int .i64 y.label, .int .u8 y.frm, .int .u8 y.tto, .slice ta tn tc] 31)).alloc (.cells #[.int .i8 0, .int .i64 0, .bool false, .int .u8 0, .int .i64 0, .int .u8 0, .int .u8 0, .slice none 0 0] 31))).block (w.alloc (.cells #[.int .i8 x.op, .int .i64 x.proj, .bool x.inj, .int .u8 x.head, .int .i64 x.label, .int .u8 x.frm, .int .u8 x.tto, .slice sa sn sc] 31)).heap.size (by simp)).trans (heap_top (w.alloc (.cells #[.int .i8 x.op, .int .i64 x.proj, .bool x.inj, .int .u8 x.head, .int .i64 x.label, .int .u8 x.frm, .int .u8 x.tto, .slice sa sn sc] 31)) _)
    rw [show (w.alloc (.cells #[.int .i8 x.op, .int .i64 x.proj, .bool x.inj, .int .u8 x.head, .int .i64 x.label, .int .u8 x.frm, .int .u8 x.tto, .slice sa sn sc] 31)).heap.size = w.heap.size + 1 by simp] at this
    exact this
  have hZ0 : W0.heap[w.heap.size + 2]? = some (.cells (tcells ⟨0, 0, false, 0, 0, 0, 0⟩ (.slice none 0 0)) 31 (0, 0)) := by
    rw [hW0]
    have := heap_top ((w.alloc (.cells #[.int .i8 x.op, .int .i64 x.proj, .bool x.inj, .int .u8 x.head, .int .i64 x.label, .int .u8 x.frm, .int .u8 x.tto, .slice sa sn sc] 31)).alloc (.cells #[.int .i8 y.op, .int .i64 y.proj, .bool y.inj, .int .u8 y.head, .int .i64 y.label, .int .u8 y.frm, .int .u8 y.tto, .slice ta tn tc] 31)) (.cells #[.int .i8 0, .int .i64 0, .bool false, .int .u8 0, .int .i64 0, .int .u8 0, .int .u8 0, .slice none 0 0] 31)
    rw [show ((w.alloc (.cells #[.int .i8 x.op, .int .i64 x.proj, .bool x.inj, .int .u8 x.head, .int .i64 x.label, .int .u8 x.frm, .int .u8 x.tto, .slice sa sn sc] 31)).alloc (.cells #[.int .i8 y.op, .int .i64 y.proj, .bool y.inj, .int .u8 y.head, .int .i64 y.label, .int .u8 y.frm, .int .u8 y.tto, .slice ta tn tc] 31)).heap.size = w.heap.size + 2 by simp] at this
    exact this
  have hK9 : w.heap.size + 2 < W0.heap.size := by rw [hW0]; simp
  have hY0 : W0.frozen? ⟨w.heap.size + 1, 1, none⟩ = false := (tcells_at hS1).2.2.1
  have HT : Aside (∀ W, Below W0.heap.size W0 W → (W.cell? ⟨w.heap.size, 0, none⟩ = some (.int .i8 x.op) ∧ W.cell? ⟨w.heap.size, 1, none⟩ = some (.int .i64 x.proj) ∧ W.cell? ⟨w.heap.size, 2, none⟩ = some (.bool x.inj) ∧ W.cell? ⟨w.heap.size, 3, none⟩ = some (.int .u8 x.head) ∧ W.cell? ⟨w.heap.size, 4, none⟩ = some (.int .i64 x.label) ∧ W.cell? ⟨w.heap.size, 5, none⟩ = some (.int .u8 x.frm) ∧ W.cell? ⟨w.heap.size, 6, none⟩ = some (.int .u8 x.tto) ∧ W.cell? ⟨w.heap.size, 7, none⟩ = some (.slice sa sn sc) ∧ W.cell? ⟨w.heap.size + 1, 0, none⟩ = some (.int .i8 y.op) ∧ W.cell? ⟨w.heap.size + 1, 1, none⟩ = some (.int .i64 y.proj) ∧ W.cell? ⟨w.heap.size + 1, 2, none⟩ = some (.bool y.inj) ∧ W.cell? ⟨w.heap.size + 1, 3, none⟩ = some (.int .u8 y.head) ∧ W.cell? ⟨w.heap.size + 1, 4, none⟩ = some (.int .i64 y.label) ∧ W.cell? ⟨w.heap.size + 1, 5, none⟩ = some (.int .u8 y.frm) ∧ W.cell? ⟨w.heap.size + 1, 6, none⟩ = some (.int .u8 y.tto) ∧ W.cell? ⟨w.heap.size + 1, 7, none⟩ = some (.slice ta tn tc))) := fun W h => by
    obtain ⟨a0, a1, a2, a3, a4, a5, a6, a7⟩ := (tcells_at ((h.block w.heap.size (by omega)).trans hS0)).1
    obtain ⟨b0, b1, b2, b3, b4, b5, b6, b7⟩ := (tcells_at ((h.block (w.heap.size + 1) (by omega)).trans hS1)).1
    exact ⟨a0, a1, a2, a3, a4, a5, a6, a7, b0, b1, b2, b3, b4, b5, b6, b7⟩
  clear hS0 hS1
  rw [← hW0]
  clear hW0
  obtain ⟨K2, hK2⟩ : ∃ K2, K2 = w.heap.size + 2 := ⟨_, rfl⟩
  rw [← hK2] at hZ0 hK9 ⊢
  obtain ⟨K1, hK1⟩ : ∃ K1, K1 = w.heap.size + 1 := ⟨_, rfl⟩
  rw [← hK1] at HT hY0 ⊢
  obtain ⟨K0, hK0⟩ : ∃ K0, K0 = w.heap.size := ⟨_, rfl⟩
  rw [← hK0] at HT
  rw [← hK0]
  have HK : Aside (K0 = w.heap.size ∧ K1 = w.heap.size + 1 ∧ K2 = w.heap.size + 2 ∧ K2 < W0.heap.size) := ⟨hK0, hK1, hK2, hK9⟩
  have h12 : K1 ≠ K2 := by omega
  have h21 : K2 ≠ K1 := by omega
  have h01 : K0 ≠ K1 := by omega
  have h10 : K1 ≠ K0 := by omega
  have h02 : K0 ≠ K2 := by omega
  have h20 : K2 ≠ K0 := by omega
  have HB0 : Aside (Below w.heap.size w W0) := hB0
  have HZ : Aside (∀ W, Below W0.heap.size W0 W → W.heap[K2]? = some (.cells (tcells ⟨0, 0, false, 0, 0, 0, 0⟩ (.slice none 0 0)) 31 (0, 0))) := fun W h => (h.block K2 hK9).trans hZ0
  have HY : Aside (∀ W, Below W0.heap.size W0 W → W.frozen? ⟨K1, 1, none⟩ = false) := fun W h => (h.frozen (p := ⟨K1, 1, none⟩) (by show K1 < W0.heap.size; omega)).trans hY0
  clear hB0 hK0 hK1 hK2 hZ0 hK9 hY0
  obtain ⟨s0, s1, s2, s3, s4, s5, s6, s7, t0, t1, t2, t3, t4, t5, t6, t7⟩ := HT.out W0 (Below.refl _ _)
  obtain ⟨⟨z0, z1, z2, z3, z4, z5, z6, z7⟩, y0, y1, y2, y3, y4, y5, y6, y7⟩ := tcells_at (HZ.out W0 (Below.refl _ _))
  by_cases hx : x.op = 7
  · have hx' : (x.op == 7) = true := by simpa using hx
    clear hx
    go_wp2_with fail
    obtain ⟨W9, hW9⟩ : ∃ W9, W9 = set8 W0 K2 x (.slice sa sn sc) := ⟨_, rfl⟩
    have hb9 : Below w.heap.size w W9 := by rw [hW9]; exact set8_below (HB0.out) (by have := HK.out; omega)
    have hz9 : W9.heap[K2]? = some (.cells (tcells x (.slice sa sn sc)) 31 (0, 0)) := by rw [hW9]; exact set8_same (HZ.out W0 (Below.refl _ _))
    obtain ⟨⟨v0, v1, v2, v3, v4, v5, v6, v7⟩, -⟩ := tcells_at hz9
    change bodyPost _ _ _ _ _ (set8 W0 K2 x (.slice sa sn sc))
    rw [← hW9]
    refine bodyPost_ret (v := tree x (.slice sa sn sc)) (by simp [results, Tryz.results31, go_sem, v0, v1, v2, v3, v4, v5, v6, v7]) rfl ?_
    refine ⟨?_, hb9⟩
    exact ⟨_, _, _, rfl, dq_keep HD.out hL hb9⟩
  · have hx' : (x.op == 7) = false := by simpa using hx
    have hy' : (y.op == 1) = true := by rcases H1.out with h | h; exact absurd h hx; simpa using h
    clear hx
    go_wp2_with fail
    obtain ⟨W9, hW9⟩ : ∃ W9, W9 = set8 W0 K2 x (.slice sa sn sc) := ⟨_, rfl⟩
    have hb9 : Below w.heap.size w W9 := by rw [hW9]; exact set8_below (HB0.out) (by have := HK.out; omega)
    have hz9 : W9.heap[K2]? = some (.cells (tcells x (.slice sa sn sc)) 31 (0, 0)) := by rw [hW9]; exact set8_same (HZ.out W0 (Below.refl _ _))
    obtain ⟨⟨v0, v1, v2, v3, v4, v5, v6, v7⟩, -⟩ := tcells_at hz9
    change bodyPost _ _ _ _ _ (set8 W0 K2 x (.slice sa sn sc))
    rw [← hW9]
    refine bodyPost_ret (v := tree x (.slice sa sn sc)) (by simp [results, Tryz.results31, go_sem, v0, v1, v2, v3, v4, v5, v6, v7]) rfl ?_
    refine ⟨?_, hb9⟩
    exact ⟨_, _, _, rfl, dq_keep HD.out hL hb9⟩
set_option maxHeartbeats 6400000 in
theorem bo_t (s t : C) (vs vt : Value) (w : World) (L : Nat) (gs : gr s) (gt : gr t) (hm : meets s t = true) (hds : DT w 0 L s vs) (hdt : DT w 0 L t vt) (hL : L ≤ w.heap.size)
    (h : (nod s).op = 1) (g : (nod t).op ≠ 1) :
    Calls Tryz.prog 31 #[tree (nod s) vs, tree (nod t) vt] w fun e w' => BoE L w (thn s t) e w' ∧ Below w.heap.size w w' := by
  obtain ⟨sa, sn, sc, rfl⟩ := hds.form
  obtain ⟨ta, tn, tc, rfl⟩ := hdt.form
  have HR : Aside (BoE L w (thn s t) = BoE L w t) := by rw [Aside, thn_t h]
  have HD : Aside (DT w 0 L t (.slice ta tn tc)) := hdt
  have hx' : ((nod s).op == 1) = true := by simpa using h
  have hx7 : ((nod s).op == 7) = false := by rw [h]; rfl
  have hy' : ((nod t).op == 1) = false := by simpa using g
  rw [HR.out]
  clear hm gs gt hds hdt h HR g
  unfold BoE
  generalize nod s = x at *
  generalize nod t = y at *
  go_enter Tryz.func31, Tryz.ntmps31
  go_upto_region 1 with fail
  obtain ⟨W0, hW0⟩ : ∃ W0, W0 = ((w.alloc (.cells #[.int .i8 x.op, .int .i64 x.proj, .bool x.inj, .int .u8 x.head, .int .i64 x.label, .int .u8 x.frm, .int .u8 x.tto, .slice sa sn sc] 31)).alloc (.cells #[.int .i8 y.op, .int .i64 y.proj, .bool y.inj, .int .u8 y.head, .int .i64 y.label, .int .u8 y.frm, .int .u8 y.tto, .slice ta tn tc] 31)).alloc (.cells #[.int .i8 0, .int .i64 0, .bool false, .int .u8 0, .int .i64 0, .int .u8 0, .int .u8 0, .slice none 0 0] 31) := ⟨_, rfl⟩
  have hB0 : Below w.heap.size w W0 := by rw [hW0]; exact below_al (below_al (below_al (Below.refl _ _) (Nat.le_refl _) _) (by simp) _) (by simp; omega) _
  have hS0 : W0.heap[w.heap.size]? = some (.cells (tcells x (.slice sa sn sc)) 31 (0, 0)) := by
    rw [hW0]
    exact ((below_al (below_al (Below.refl _ _) (Nat.le_refl _) _) (by simp) _ : Below (w.alloc (.cells #[.int .i8 x.op, .int .i64 x.proj, .bool x.inj, .int .u8 x.head, .int .i64 x.label, .int .u8 x.frm, .int .u8 x.tto, .slice sa sn sc] 31)).heap.size (w.alloc (.cells #[.int .i8 x.op, .int .i64 x.proj, .bool x.inj, .int .u8 x.head, .int .i64 x.label, .int .u8 x.frm, .int .u8 x.tto, .slice sa sn sc] 31)) (((w.alloc (.cells #[.int .i8 x.op, .int .i64 x.proj, .bool x.inj, .int .u8 x.head, .int .i64 x.label, .int .u8 x.frm, .int .u8 x.tto, .slice sa sn sc] 31)).alloc (.cells #[.int .i8 y.op, .int .i64 y.proj, .bool y.inj, .int .u8 y.head, .int .i64 y.label, .int .u8 y.frm, .int .u8 y.tto, .slice ta tn tc] 31)).alloc (.cells #[.int .i8 0, .int .i64 0, .bool false, .int .u8 0, .int .i64 0, .int .u8 0, .int .u8 0, .slice none 0 0] 31))).block w.heap.size (by simp)).trans (heap_top w _)
  have hS1 : W0.heap[w.heap.size + 1]? = some (.cells (tcells y (.slice ta tn tc)) 31 (0, 0)) := by
    rw [hW0]
    have := ((below_al (Below.refl _ _) (Nat.le_refl _) _ : Below ((w.alloc (.cells #[.int .i8 x.op, .int .i64 x.proj, .bool x.inj, .int .u8 x.head, .int .i64 x.label, .int .u8 x.frm, .int .u8 x.tto, .slice sa sn sc] 31)).alloc (.cells #[.int .i8 y.op, .int .i64 y.proj, .bool y.inj, .int .u8 y.head, .int .i64 y.label, .int .u8 y.frm, .int .u8 y.tto, .slice ta tn tc] 31)).heap.size ((w.alloc (.cells #[.int .i8 x.op, .int .i64 x.proj, .bool x.inj, .int .u8 x.head, .int .i64 x.label, .int .u8 x.frm, .int .u8 x.tto, .slice sa sn sc] 31)).alloc (.cells #[.int .i8 y.op, .int .i64 y.proj, .bool y.inj, .int .u8 y.head, .int .i64 y.label, .int .u8 y.frm, .int .u8 y.tto, .slice ta tn tc] 31)) (((w.alloc (.cells #[.int .i8 x.op, .int .i64 x.proj, .bool x.inj, .int .u8 x.head, .int .i64 x.label, .int .u8 x.frm, .int .u8 x.tto, .slice sa sn sc] 31)).alloc (.cells #[.int .i8 y.op, .int .i64 y.proj, .bool y.inj, .int .u8 y.head, .int .i64 y.label, .int .u8 y.frm, .int .u8 y.tto, .slice ta tn tc] 31)).alloc (.cells #[.int .i8 0, .int .i64 0, .bool false, .int .u8 0, .int .i64 0, .int .u8 0, .int .u8 0, .slice none 0 0] 31))).block (w.alloc (.cells #[.int .i8 x.op, .int .i64 x.proj, .bool x.inj, .int .u8 x.head, .int .i64 x.label, .int .u8 x.frm, .int .u8 x.tto, .slice sa sn sc] 31)).heap.size (by simp)).trans (heap_top (w.alloc (.cells #[.int .i8 x.op, .int .i64 x.proj, .bool x.inj, .int .u8 x.head, .int .i64 x.label, .int .u8 x.frm, .int .u8 x.tto, .slice sa sn sc] 31)) _)
    rw [show (w.alloc (.cells #[.int .i8 x.op, .int .i64 x.proj, .bool x.inj, .int .u8 x.head, .int .i64 x.label, .int .u8 x.frm, .int .u8 x.tto, .slice sa sn sc] 31)).heap.size = w.heap.size + 1 by simp] at this
    exact this
  have hZ0 : W0.heap[w.heap.size + 2]? = some (.cells (tcells ⟨0, 0, false, 0, 0, 0, 0⟩ (.slice none 0 0)) 31 (0, 0)) := by
    rw [hW0]
    have := heap_top ((w.alloc (.cells #[.int .i8 x.op, .int .i64 x.proj, .bool x.inj, .int .u8 x.head, .int .i64 x.label, .int .u8 x.frm, .int .u8 x.tto, .slice sa sn sc] 31)).alloc (.cells #[.int .i8 y.op, .int .i64 y.proj, .bool y.inj, .int .u8 y.head, .int .i64 y.label, .int .u8 y.frm, .int .u8 y.tto, .slice ta tn tc] 31)) (.cells #[.int .i8 0, .int .i64 0, .bool false, .int .u8 0, .int .i64 0, .int .u8 0, .int .u8 0, .slice none 0 0] 31)
    rw [show ((w.alloc (.cells #[.int .i8 x.op, .int .i64 x.proj, .bool x.inj, .int .u8 x.head, .int .i64 x.label, .int .u8 x.frm, .int .u8 x.tto, .slice sa sn sc] 31)).alloc (.cells #[.int .i8 y.op, .int .i64 y.proj, .bool y.inj, .int .u8 y.head, .int .i64 y.label, .int .u8 y.frm, .int .u8 y.tto, .slice ta tn tc] 31)).heap.size = w.heap.size + 2 by simp] at this
    exact this
  have hK9 : w.heap.size + 2 < W0.heap.size := by rw [hW0]; simp
  have hY0 : W0.frozen? ⟨w.heap.size + 1, 1, none⟩ = false := (tcells_at hS1).2.2.1
  have HT : Aside (∀ W, Below W0.heap.size W0 W → (W.cell? ⟨w.heap.size, 0, none⟩ = some (.int .i8 x.op) ∧ W.cell? ⟨w.heap.size, 1, none⟩ = some (.int .i64 x.proj) ∧ W.cell? ⟨w.heap.size, 2, none⟩ = some (.bool x.inj) ∧ W.cell? ⟨w.heap.size, 3, none⟩ = some (.int .u8 x.head) ∧ W.cell? ⟨w.heap.size, 4, none⟩ = some (.int .i64 x.label) ∧ W.cell? ⟨w.heap.size, 5, none⟩ = some (.int .u8 x.frm) ∧ W.cell? ⟨w.heap.size, 6, none⟩ = some (.int .u8 x.tto) ∧ W.cell? ⟨w.heap.size, 7, none⟩ = some (.slice sa sn sc) ∧ W.cell? ⟨w.heap.size + 1, 0, none⟩ = some (.int .i8 y.op) ∧ W.cell? ⟨w.heap.size + 1, 1, none⟩ = some (.int .i64 y.proj) ∧ W.cell? ⟨w.heap.size + 1, 2, none⟩ = some (.bool y.inj) ∧ W.cell? ⟨w.heap.size + 1, 3, none⟩ = some (.int .u8 y.head) ∧ W.cell? ⟨w.heap.size + 1, 4, none⟩ = some (.int .i64 y.label) ∧ W.cell? ⟨w.heap.size + 1, 5, none⟩ = some (.int .u8 y.frm) ∧ W.cell? ⟨w.heap.size + 1, 6, none⟩ = some (.int .u8 y.tto) ∧ W.cell? ⟨w.heap.size + 1, 7, none⟩ = some (.slice ta tn tc))) := fun W h => by
    obtain ⟨a0, a1, a2, a3, a4, a5, a6, a7⟩ := (tcells_at ((h.block w.heap.size (by omega)).trans hS0)).1
    obtain ⟨b0, b1, b2, b3, b4, b5, b6, b7⟩ := (tcells_at ((h.block (w.heap.size + 1) (by omega)).trans hS1)).1
    exact ⟨a0, a1, a2, a3, a4, a5, a6, a7, b0, b1, b2, b3, b4, b5, b6, b7⟩
  clear hS0 hS1
  rw [← hW0]
  clear hW0
  obtain ⟨K2, hK2⟩ : ∃ K2, K2 = w.heap.size + 2 := ⟨_, rfl⟩
  rw [← hK2] at hZ0 hK9 ⊢
  obtain ⟨K1, hK1⟩ : ∃ K1, K1 = w.heap.size + 1 := ⟨_, rfl⟩
  rw [← hK1] at HT hY0 ⊢
  obtain ⟨K0, hK0⟩ : ∃ K0, K0 = w.heap.size := ⟨_, rfl⟩
  rw [← hK0] at HT
  rw [← hK0]
  have HK : Aside (K0 = w.heap.size ∧ K1 = w.heap.size + 1 ∧ K2 = w.heap.size + 2 ∧ K2 < W0.heap.size) := ⟨hK0, hK1, hK2, hK9⟩
  have h12 : K1 ≠ K2 := by omega
  have h21 : K2 ≠ K1 := by omega
  have h01 : K0 ≠ K1 := by omega
  have h10 : K1 ≠ K0 := by omega
  have h02 : K0 ≠ K2 := by omega
  have h20 : K2 ≠ K0 := by omega
  have HB0 : Aside (Below w.heap.size w W0) := hB0
  have HZ : Aside (∀ W, Below W0.heap.size W0 W → W.heap[K2]? = some (.cells (tcells ⟨0, 0, false, 0, 0, 0, 0⟩ (.slice none 0 0)) 31 (0, 0))) := fun W h => (h.block K2 hK9).trans hZ0
  have HY : Aside (∀ W, Below W0.heap.size W0 W → W.frozen? ⟨K1, 1, none⟩ = false) := fun W h => (h.frozen (p := ⟨K1, 1, none⟩) (by show K1 < W0.heap.size; omega)).trans hY0
  clear hB0 hK0 hK1 hK2 hZ0 hK9 hY0
  obtain ⟨s0, s1, s2, s3, s4, s5, s6, s7, t0, t1, t2, t3, t4, t5, t6, t7⟩ := HT.out W0 (Below.refl _ _)
  obtain ⟨⟨z0, z1, z2, z3, z4, z5, z6, z7⟩, y0, y1, y2, y3, y4, y5, y6, y7⟩ := tcells_at (HZ.out W0 (Below.refl _ _))
  go_wp2_with fail
  obtain ⟨W9, hW9⟩ : ∃ W9, W9 = set8 W0 K2 y (.slice ta tn tc) := ⟨_, rfl⟩
  have hb9 : Below w.heap.size w W9 := by rw [hW9]; exact set8_below (HB0.out) (by have := HK.out; omega)
  have hz9 : W9.heap[K2]? = some (.cells (tcells y (.slice ta tn tc)) 31 (0, 0)) := by rw [hW9]; exact set8_same (HZ.out W0 (Below.refl _ _))
  obtain ⟨⟨v0, v1, v2, v3, v4, v5, v6, v7⟩, -⟩ := tcells_at hz9
  change bodyPost _ _ _ _ _ (set8 W0 K2 y (.slice ta tn tc))
  rw [← hW9]
  refine bodyPost_ret (v := tree y (.slice ta tn tc)) (by simp [results, Tryz.results31, go_sem, v0, v1, v2, v3, v4, v5, v6, v7]) rfl ?_
  refine ⟨?_, hb9⟩
  exact ⟨_, _, _, rfl, dq_keep HD.out hL hb9⟩
end Go.Proofs.YtaaokecdmbmgbaaGreatDoor
namespace Go.Proofs.YtaaokecdmbmgbaaGreatDoor
open Go.RowKit Cc
set_option maxRecDepth 100000
set_option linter.unusedSimpArgs false
set_option linter.unusedVariables false
set_option maxHeartbeats 6400000 in
theorem bo_f (s t : C) (vs vt : Value) (w : World) (L : Nat) (gs : gr s) (gt : gr t) (hm : meets s t = true) (hds : DT w 0 L s vs) (hdt : DT w 0 L t vt) (hL : L ≤ w.heap.size)
    (h7 : (nod s).op ≠ 7) (h1 : (nod s).op ≠ 1) (g1 : (nod t).op ≠ 1) (g7 : (nod t).op = 7) (hd : (nod s).head = (nod t).head) :
    Calls Tryz.prog 31 #[tree (nod s) vs, tree (nod t) vt] w fun e w' => BoE L w (thn s t) e w' ∧ Below w.heap.size w w' := by
  obtain ⟨sa, sn, sc, rfl⟩ := hds.form
  obtain ⟨ta, tn, tc, rfl⟩ := hdt.form
  have ce := dends_any s sa sn sc
  rw [show ((decide ((nod s).op = 1) || (nod s).inj) = fin0 (nod s)) from rfl] at ce
  obtain ⟨EN, hEN⟩ : ∃ EN, EN = fin0 (nod s) := ⟨_, rfl⟩
  rw [← hEN] at ce
  have hx' : ((nod s).op == 1) = false := by simpa using h1
  have hx7 : ((nod s).op == 7) = false := by simpa using h7
  have hy' : ((nod t).op == 1) = false := by simpa using g1
  obtain ⟨⟨p9, h9, q9, g9, e9⟩, en⟩ := thn_flB h7 h1 g7 hd
  have HR : Aside (∀ e w', e = .returned (tree ⟨(nod t).op, (nod s).proj, (nod t).inj, (nod t).head, (nod t).label, (nod t).frm, (nod t).tto⟩ (.slice ta tn tc)) → BoE L w (thn s t) e w') := by
    rintro e w' rfl
    refine ⟨ta, tn, tc, by rw [en], ?_⟩
    rw [e9]
    cases t with
    | fl => exact hdt
    | tw k => exact absurd g7 (opK_ne k).1
    | _ => simp [nod, sh, shN] at g7
  have hd' : ((nod s).head != (nod t).head) = false := by simpa using hd
  have hy7 : ((nod t).op == 7) = true := by simpa using g7
  clear hm gs gt hds hdt h1 h7 g1 en e9 hd g7 hEN
  generalize nod s = x at *
  generalize nod t = y at *
  generalize thn s t = R at *
  go_enter Tryz.func31, Tryz.ntmps31
  go_upto_region 1 with fail
  obtain ⟨W0, hW0⟩ : ∃ W0, W0 = ((w.alloc (.cells #[.int .i8 x.op, .int .i64 x.proj, .bool x.inj, .int .u8 x.head, .int .i64 x.label, .int .u8 x.frm, .int .u8 x.tto, .slice sa sn sc] 31)).alloc (.cells #[.int .i8 y.op, .int .i64 y.proj, .bool y.inj, .int .u8 y.head, .int .i64 y.label, .int .u8 y.frm, .int .u8 y.tto, .slice ta tn tc] 31)).alloc (.cells #[.int .i8 0, .int .i64 0, .bool false, .int .u8 0, .int .i64 0, .int .u8 0, .int .u8 0, .slice none 0 0] 31) := ⟨_, rfl⟩
  have hB0 : Below w.heap.size w W0 := by rw [hW0]; exact below_al (below_al (below_al (Below.refl _ _) (Nat.le_refl _) _) (by simp) _) (by simp; omega) _
  have hS0 : W0.heap[w.heap.size]? = some (.cells (tcells x (.slice sa sn sc)) 31 (0, 0)) := by
    rw [hW0]
    exact ((below_al (below_al (Below.refl _ _) (Nat.le_refl _) _) (by simp) _ : Below (w.alloc (.cells #[.int .i8 x.op, .int .i64 x.proj, .bool x.inj, .int .u8 x.head, .int .i64 x.label, .int .u8 x.frm, .int .u8 x.tto, .slice sa sn sc] 31)).heap.size (w.alloc (.cells #[.int .i8 x.op, .int .i64 x.proj, .bool x.inj, .int .u8 x.head, .int .i64 x.label, .int .u8 x.frm, .int .u8 x.tto, .slice sa sn sc] 31)) (((w.alloc (.cells #[.int .i8 x.op, .int .i64 x.proj, .bool x.inj, .int .u8 x.head, .int .i64 x.label, .int .u8 x.frm, .int .u8 x.tto, .slice sa sn sc] 31)).alloc (.cells #[.int .i8 y.op, .int .i64 y.proj, .bool y.inj, .int .u8 y.head, .int .i64 y.label, .int .u8 y.frm, .int .u8 y.tto, .slice ta tn tc] 31)).alloc (.cells #[.int .i8 0, .int .i64 0, .bool false, .int .u8 0, .int .i64 0, .int .u8 0, .int .u8 0, .slice none 0 0] 31))).block w.heap.size (by simp)).trans (heap_top w _)
  have hS1 : W0.heap[w.heap.size + 1]? = some (.cells (tcells y (.slice ta tn tc)) 31 (0, 0)) := by
    rw [hW0]
    have := ((below_al (Below.refl _ _) (Nat.le_refl _) _ : Below ((w.alloc (.cells #[.int .i8 x.op, .int .i64 x.proj, .bool x.inj, .int .u8 x.head, .int .i64 x.label, .int .u8 x.frm, .int .u8 x.tto, .slice sa sn sc] 31)).alloc (.cells #[.int .i8 y.op, .int .i64 y.proj, .bool y.inj, .int .u8 y.head, .int .i64 y.label, .int .u8 y.frm, .int .u8 y.tto, .slice ta tn tc] 31)).heap.size ((w.alloc (.cells #[.int .i8 x.op, .int .i64 x.proj, .bool x.inj, .int .u8 x.head, .int .i64 x.label, .int .u8 x.frm, .int .u8 x.tto, .slice sa sn sc] 31)).alloc (.cells #[.int .i8 y.op, .int .i64 y.proj, .bool y.inj, .int .u8 y.head, .int .i64 y.label, .int .u8 y.frm, .int .u8 y.tto, .slice ta tn tc] 31)) (((w.alloc (.cells #[.int .i8 x.op, .int .i64 x.proj, .bool x.inj, .int .u8 x.head, .int .i64 x.label, .int .u8 x.frm, .int .u8 x.tto, .slice sa sn sc] 31)).alloc (.cells #[.int .i8 y.op, .int .i64 y.proj, .bool y.inj, .int .u8 y.head, .int .i64 y.label, .int .u8 y.frm, .int .u8 y.tto, .slice ta tn tc] 31)).alloc (.cells #[.int .i8 0, .int .i64 0, .bool false, .int .u8 0, .int .i64 0, .int .u8 0, .int .u8 0, .slice none 0 0] 31))).block (w.alloc (.cells #[.int .i8 x.op, .int .i64 x.proj, .bool x.inj, .int .u8 x.head, .int .i64 x.label, .int .u8 x.frm, .int .u8 x.tto, .slice sa sn sc] 31)).heap.size (by simp)).trans (heap_top (w.alloc (.cells #[.int .i8 x.op, .int .i64 x.proj, .bool x.inj, .int .u8 x.head, .int .i64 x.label, .int .u8 x.frm, .int .u8 x.tto, .slice sa sn sc] 31)) _)
    rw [show (w.alloc (.cells #[.int .i8 x.op, .int .i64 x.proj, .bool x.inj, .int .u8 x.head, .int .i64 x.label, .int .u8 x.frm, .int .u8 x.tto, .slice sa sn sc] 31)).heap.size = w.heap.size + 1 by simp] at this
    exact this
  have hZ0 : W0.heap[w.heap.size + 2]? = some (.cells (tcells ⟨0, 0, false, 0, 0, 0, 0⟩ (.slice none 0 0)) 31 (0, 0)) := by
    rw [hW0]
    have := heap_top ((w.alloc (.cells #[.int .i8 x.op, .int .i64 x.proj, .bool x.inj, .int .u8 x.head, .int .i64 x.label, .int .u8 x.frm, .int .u8 x.tto, .slice sa sn sc] 31)).alloc (.cells #[.int .i8 y.op, .int .i64 y.proj, .bool y.inj, .int .u8 y.head, .int .i64 y.label, .int .u8 y.frm, .int .u8 y.tto, .slice ta tn tc] 31)) (.cells #[.int .i8 0, .int .i64 0, .bool false, .int .u8 0, .int .i64 0, .int .u8 0, .int .u8 0, .slice none 0 0] 31)
    rw [show ((w.alloc (.cells #[.int .i8 x.op, .int .i64 x.proj, .bool x.inj, .int .u8 x.head, .int .i64 x.label, .int .u8 x.frm, .int .u8 x.tto, .slice sa sn sc] 31)).alloc (.cells #[.int .i8 y.op, .int .i64 y.proj, .bool y.inj, .int .u8 y.head, .int .i64 y.label, .int .u8 y.frm, .int .u8 y.tto, .slice ta tn tc] 31)).heap.size = w.heap.size + 2 by simp] at this
    exact this
  have hK9 : w.heap.size + 2 < W0.heap.size := by rw [hW0]; simp
  have hY0 : W0.frozen? ⟨w.heap.size + 1, 1, none⟩ = false := (tcells_at hS1).2.2.1
  have HT : Aside (∀ W, Below W0.heap.size W0 W → (W.cell? ⟨w.heap.size, 0, none⟩ = some (.int .i8 x.op) ∧ W.cell? ⟨w.heap.size, 1, none⟩ = some (.int .i64 x.proj) ∧ W.cell? ⟨w.heap.size, 2, none⟩ = some (.bool x.inj) ∧ W.cell? ⟨w.heap.size, 3, none⟩ = some (.int .u8 x.head) ∧ W.cell? ⟨w.heap.size, 4, none⟩ = some (.int .i64 x.label) ∧ W.cell? ⟨w.heap.size, 5, none⟩ = some (.int .u8 x.frm) ∧ W.cell? ⟨w.heap.size, 6, none⟩ = some (.int .u8 x.tto) ∧ W.cell? ⟨w.heap.size, 7, none⟩ = some (.slice sa sn sc) ∧ W.cell? ⟨w.heap.size + 1, 0, none⟩ = some (.int .i8 y.op) ∧ W.cell? ⟨w.heap.size + 1, 1, none⟩ = some (.int .i64 y.proj) ∧ W.cell? ⟨w.heap.size + 1, 2, none⟩ = some (.bool y.inj) ∧ W.cell? ⟨w.heap.size + 1, 3, none⟩ = some (.int .u8 y.head) ∧ W.cell? ⟨w.heap.size + 1, 4, none⟩ = some (.int .i64 y.label) ∧ W.cell? ⟨w.heap.size + 1, 5, none⟩ = some (.int .u8 y.frm) ∧ W.cell? ⟨w.heap.size + 1, 6, none⟩ = some (.int .u8 y.tto) ∧ W.cell? ⟨w.heap.size + 1, 7, none⟩ = some (.slice ta tn tc))) := fun W h => by
    obtain ⟨a0, a1, a2, a3, a4, a5, a6, a7⟩ := (tcells_at ((h.block w.heap.size (by omega)).trans hS0)).1
    obtain ⟨b0, b1, b2, b3, b4, b5, b6, b7⟩ := (tcells_at ((h.block (w.heap.size + 1) (by omega)).trans hS1)).1
    exact ⟨a0, a1, a2, a3, a4, a5, a6, a7, b0, b1, b2, b3, b4, b5, b6, b7⟩
  clear hS0 hS1
  rw [← hW0]
  clear hW0
  obtain ⟨K2, hK2⟩ : ∃ K2, K2 = w.heap.size + 2 := ⟨_, rfl⟩
  rw [← hK2] at hZ0 hK9 ⊢
  obtain ⟨K1, hK1⟩ : ∃ K1, K1 = w.heap.size + 1 := ⟨_, rfl⟩
  rw [← hK1] at HT hY0 ⊢
  obtain ⟨K0, hK0⟩ : ∃ K0, K0 = w.heap.size := ⟨_, rfl⟩
  rw [← hK0] at HT
  rw [← hK0]
  have HK : Aside (K0 = w.heap.size ∧ K1 = w.heap.size + 1 ∧ K2 = w.heap.size + 2 ∧ K2 < W0.heap.size) := ⟨hK0, hK1, hK2, hK9⟩
  have h12 : K1 ≠ K2 := by omega
  have h21 : K2 ≠ K1 := by omega
  have h01 : K0 ≠ K1 := by omega
  have h10 : K1 ≠ K0 := by omega
  have h02 : K0 ≠ K2 := by omega
  have h20 : K2 ≠ K0 := by omega
  have HB0 : Aside (Below w.heap.size w W0) := hB0
  have HZ : Aside (∀ W, Below W0.heap.size W0 W → W.heap[K2]? = some (.cells (tcells ⟨0, 0, false, 0, 0, 0, 0⟩ (.slice none 0 0)) 31 (0, 0))) := fun W h => (h.block K2 hK9).trans hZ0
  have HY : Aside (∀ W, Below W0.heap.size W0 W → W.frozen? ⟨K1, 1, none⟩ = false) := fun W h => (h.frozen (p := ⟨K1, 1, none⟩) (by show K1 < W0.heap.size; omega)).trans hY0
  clear hB0 hK0 hK1 hK2 hZ0 hK9 hY0
  obtain ⟨s0, s1, s2, s3, s4, s5, s6, s7, t0, t1, t2, t3, t4, t5, t6, t7⟩ := HT.out W0 (Below.refl _ _)
  cases EN
  all_goals
    go_wp2_with (go_at_call 25; refine (ce _).mono ?_; rintro e w2 ⟨rfl, hB2⟩; clear s0 s1 s2 s3 s4 s5 s6 s7 t0 t1 t2 t3 t4 t5 t6 t7; obtain ⟨s0, s1, s2, s3, s4, s5, s6, s7, t0, t1, t2, t3, t4, t5, t6, t7⟩ := HT.out w2 hB2; obtain ⟨⟨z0, z1, z2, z3, z4, z5, z6, z7⟩, y0, y1, y2, y3, y4, y5, y6, y7⟩ := tcells_at (HZ.out w2 hB2); have hY := HY.out w2 hB2)
    have hZ9 : (w2.setCell ⟨K1, 1, none⟩ (.int .i64 x.proj)).heap[K2]? = some (.cells (tcells ⟨0, 0, false, 0, 0, 0, 0⟩ (.slice none 0 0)) 31 (0, 0)) := (Below.heap_setCell _ _ _ _ (by exact h21)).trans (HZ.out w2 hB2)
    obtain ⟨W9, hW9⟩ : ∃ W9, W9 = set8 (w2.setCell ⟨K1, 1, none⟩ (.int .i64 x.proj)) K2 ⟨y.op, x.proj, y.inj, y.head, y.label, y.frm, y.tto⟩ (.slice ta tn tc) := ⟨_, rfl⟩
    have hb9 : Below w.heap.size w W9 := by rw [hW9]; exact set8_below ((HB0.out.trans (hB2.mono HB0.out.size)).setCell (by have := HK.out; show w.heap.size ≤ K1; omega) _) (by have := HK.out; omega)
    have hz9 : W9.heap[K2]? = some (.cells (tcells ⟨y.op, x.proj, y.inj, y.head, y.label, y.frm, y.tto⟩ (.slice ta tn tc)) 31 (0, 0)) := by rw [hW9]; exact set8_same hZ9
    obtain ⟨⟨v0, v1, v2, v3, v4, v5, v6, v7⟩, -⟩ := tcells_at hz9
    change bodyPost _ _ _ _ _ (set8 (w2.setCell ⟨K1, 1, none⟩ (.int .i64 x.proj)) K2 ⟨y.op, x.proj, y.inj, y.head, y.label, y.frm, y.tto⟩ (.slice ta tn tc))
    rw [← hW9]
    refine bodyPost_ret (v := tree ⟨y.op, x.proj, y.inj, y.head, y.label, y.frm, y.tto⟩ (.slice ta tn tc)) (by simp [results, Tryz.results31, go_sem, v0, v1, v2, v3, v4, v5, v6, v7]) rfl ?_
    refine ⟨?_, hb9⟩
    exact HR.out _ _ rfl
end Go.Proofs.YtaaokecdmbmgbaaGreatDoor
namespace Go.Proofs.YtaaokecdmbmgbaaGreatDoor
open Go.RowKit Cc
set_option maxRecDepth 100000
set_option linter.unusedSimpArgs false
set_option linter.unusedVariables false
set_option maxHeartbeats 6400000 in
theorem bo_d (s t : C) (vs vt : Value) (w : World) (L : Nat) (gs : gr s) (gt : gr t) (hm : meets s t = true) (hds : DT w 0 L s vs) (hdt : DT w 0 L t vt) (hL : L ≤ w.heap.size)
    (h7 : (nod s).op ≠ 7) (h1 : (nod s).op ≠ 1) (g1 : (nod t).op ≠ 1) (hd : (nod s).head ≠ (nod t).head) :
    Calls Tryz.prog 31 #[tree (nod s) vs, tree (nod t) vt] w fun e w' => BoE L w (thn s t) e w' ∧ Below w.heap.size w w' := by
  obtain ⟨sa, sn, sc, rfl⟩ := hds.form
  obtain ⟨ta, tn, tc, rfl⟩ := hdt.form
  have ce := dends_any s sa sn sc
  rw [show ((decide ((nod s).op = 1) || (nod s).inj) = fin0 (nod s)) from rfl] at ce
  obtain ⟨EN, hEN⟩ : ∃ EN, EN = fin0 (nod s) := ⟨_, rfl⟩
  rw [← hEN] at ce
  have hx' : ((nod s).op == 1) = false := by simpa using h1
  have hx7 : ((nod s).op == 7) = false := by simpa using h7
  have hy' : ((nod t).op == 1) = false := by simpa using g1
  have hE : EN = true := by
    rw [hEN]
    have := meets_nod gs gt
    rw [hm, meetQ, if_neg h7, if_neg (by rintro (h | h); exact h1 h; exact g1 h)] at this
    by_cases e : fin0 (nod s) ≠ begN (nod t)
    · rw [if_pos e] at this; cases this
    · rw [if_neg e, if_pos hd] at this; exact this.symm
  clear hEN
  subst hE
  obtain ⟨⟨p9, h9, q9, g9, e9⟩, en⟩ := thn_diff gs gt h7 h1 g1 hd
  have HR : Aside (∀ e w', e = .returned (tree ⟨7, (nod s).proj, false, (nod s).head, (nod t).proj, (nod s).head, (nod t).head⟩ (.slice none 0 0)) → BoE L w (thn s t) e w') := by
    rintro e w' rfl
    refine ⟨none, 0, 0, by rw [en], ?_⟩
    rw [e9]; rfl
  have hd' : ((nod s).head != (nod t).head) = true := by simpa using hd
  clear hm gs gt hds hdt h1 h7 g1 en e9 hd
  generalize nod s = x at *
  generalize nod t = y at *
  generalize thn s t = R at *
  go_enter Tryz.func31, Tryz.ntmps31
  go_upto_region 1 with fail
  obtain ⟨W0, hW0⟩ : ∃ W0, W0 = ((w.alloc (.cells #[.int .i8 x.op, .int .i64 x.proj, .bool x.inj, .int .u8 x.head, .int .i64 x.label, .int .u8 x.frm, .int .u8 x.tto, .slice sa sn sc] 31)).alloc (.cells #[.int .i8 y.op, .int .i64 y.proj, .bool y.inj, .int .u8 y.head, .int .i64 y.label, .int .u8 y.frm, .int .u8 y.tto, .slice ta tn tc] 31)).alloc (.cells #[.int .i8 0, .int .i64 0, .bool false, .int .u8 0, .int .i64 0, .int .u8 0, .int .u8 0, .slice none 0 0] 31) := ⟨_, rfl⟩
  have hB0 : Below w.heap.size w W0 := by rw [hW0]; exact below_al (below_al (below_al (Below.refl _ _) (Nat.le_refl _) _) (by simp) _) (by simp; omega) _
  have hS0 : W0.heap[w.heap.size]? = some (.cells (tcells x (.slice sa sn sc)) 31 (0, 0)) := by
    rw [hW0]
    exact ((below_al (below_al (Below.refl _ _) (Nat.le_refl _) _) (by simp) _ : Below (w.alloc (.cells #[.int .i8 x.op, .int .i64 x.proj, .bool x.inj, .int .u8 x.head, .int .i64 x.label, .int .u8 x.frm, .int .u8 x.tto, .slice sa sn sc] 31)).heap.size (w.alloc (.cells #[.int .i8 x.op, .int .i64 x.proj, .bool x.inj, .int .u8 x.head, .int .i64 x.label, .int .u8 x.frm, .int .u8 x.tto, .slice sa sn sc] 31)) (((w.alloc (.cells #[.int .i8 x.op, .int .i64 x.proj, .bool x.inj, .int .u8 x.head, .int .i64 x.label, .int .u8 x.frm, .int .u8 x.tto, .slice sa sn sc] 31)).alloc (.cells #[.int .i8 y.op, .int .i64 y.proj, .bool y.inj, .int .u8 y.head, .int .i64 y.label, .int .u8 y.frm, .int .u8 y.tto, .slice ta tn tc] 31)).alloc (.cells #[.int .i8 0, .int .i64 0, .bool false, .int .u8 0, .int .i64 0, .int .u8 0, .int .u8 0, .slice none 0 0] 31))).block w.heap.size (by simp)).trans (heap_top w _)
  have hS1 : W0.heap[w.heap.size + 1]? = some (.cells (tcells y (.slice ta tn tc)) 31 (0, 0)) := by
    rw [hW0]
    have := ((below_al (Below.refl _ _) (Nat.le_refl _) _ : Below ((w.alloc (.cells #[.int .i8 x.op, .int .i64 x.proj, .bool x.inj, .int .u8 x.head, .int .i64 x.label, .int .u8 x.frm, .int .u8 x.tto, .slice sa sn sc] 31)).alloc (.cells #[.int .i8 y.op, .int .i64 y.proj, .bool y.inj, .int .u8 y.head, .int .i64 y.label, .int .u8 y.frm, .int .u8 y.tto, .slice ta tn tc] 31)).heap.size ((w.alloc (.cells #[.int .i8 x.op, .int .i64 x.proj, .bool x.inj, .int .u8 x.head, .int .i64 x.label, .int .u8 x.frm, .int .u8 x.tto, .slice sa sn sc] 31)).alloc (.cells #[.int .i8 y.op, .int .i64 y.proj, .bool y.inj, .int .u8 y.head, .int .i64 y.label, .int .u8 y.frm, .int .u8 y.tto, .slice ta tn tc] 31)) (((w.alloc (.cells #[.int .i8 x.op, .int .i64 x.proj, .bool x.inj, .int .u8 x.head, .int .i64 x.label, .int .u8 x.frm, .int .u8 x.tto, .slice sa sn sc] 31)).alloc (.cells #[.int .i8 y.op, .int .i64 y.proj, .bool y.inj, .int .u8 y.head, .int .i64 y.label, .int .u8 y.frm, .int .u8 y.tto, .slice ta tn tc] 31)).alloc (.cells #[.int .i8 0, .int .i64 0, .bool false, .int .u8 0, .int .i64 0, .int .u8 0, .int .u8 0, .slice none 0 0] 31))).block (w.alloc (.cells #[.int .i8 x.op, .int .i64 x.proj, .bool x.inj, .int .u8 x.head, .int .i64 x.label, .int .u8 x.frm, .int .u8 x.tto, .slice sa sn sc] 31)).heap.size (by simp)).trans (heap_top (w.alloc (.cells #[.int .i8 x.op, .int .i64 x.proj, .bool x.inj, .int .u8 x.head, .int .i64 x.label, .int .u8 x.frm, .int .u8 x.tto, .slice sa sn sc] 31)) _)
    rw [show (w.alloc (.cells #[.int .i8 x.op, .int .i64 x.proj, .bool x.inj, .int .u8 x.head, .int .i64 x.label, .int .u8 x.frm, .int .u8 x.tto, .slice sa sn sc] 31)).heap.size = w.heap.size + 1 by simp] at this
    exact this
  have hZ0 : W0.heap[w.heap.size + 2]? = some (.cells (tcells ⟨0, 0, false, 0, 0, 0, 0⟩ (.slice none 0 0)) 31 (0, 0)) := by
    rw [hW0]
    have := heap_top ((w.alloc (.cells #[.int .i8 x.op, .int .i64 x.proj, .bool x.inj, .int .u8 x.head, .int .i64 x.label, .int .u8 x.frm, .int .u8 x.tto, .slice sa sn sc] 31)).alloc (.cells #[.int .i8 y.op, .int .i64 y.proj, .bool y.inj, .int .u8 y.head, .int .i64 y.label, .int .u8 y.frm, .int .u8 y.tto, .slice ta tn tc] 31)) (.cells #[.int .i8 0, .int .i64 0, .bool false, .int .u8 0, .int .i64 0, .int .u8 0, .int .u8 0, .slice none 0 0] 31)
    rw [show ((w.alloc (.cells #[.int .i8 x.op, .int .i64 x.proj, .bool x.inj, .int .u8 x.head, .int .i64 x.label, .int .u8 x.frm, .int .u8 x.tto, .slice sa sn sc] 31)).alloc (.cells #[.int .i8 y.op, .int .i64 y.proj, .bool y.inj, .int .u8 y.head, .int .i64 y.label, .int .u8 y.frm, .int .u8 y.tto, .slice ta tn tc] 31)).heap.size = w.heap.size + 2 by simp] at this
    exact this
  have hK9 : w.heap.size + 2 < W0.heap.size := by rw [hW0]; simp
  have hY0 : W0.frozen? ⟨w.heap.size + 1, 1, none⟩ = false := (tcells_at hS1).2.2.1
  have HT : Aside (∀ W, Below W0.heap.size W0 W → (W.cell? ⟨w.heap.size, 0, none⟩ = some (.int .i8 x.op) ∧ W.cell? ⟨w.heap.size, 1, none⟩ = some (.int .i64 x.proj) ∧ W.cell? ⟨w.heap.size, 2, none⟩ = some (.bool x.inj) ∧ W.cell? ⟨w.heap.size, 3, none⟩ = some (.int .u8 x.head) ∧ W.cell? ⟨w.heap.size, 4, none⟩ = some (.int .i64 x.label) ∧ W.cell? ⟨w.heap.size, 5, none⟩ = some (.int .u8 x.frm) ∧ W.cell? ⟨w.heap.size, 6, none⟩ = some (.int .u8 x.tto) ∧ W.cell? ⟨w.heap.size, 7, none⟩ = some (.slice sa sn sc) ∧ W.cell? ⟨w.heap.size + 1, 0, none⟩ = some (.int .i8 y.op) ∧ W.cell? ⟨w.heap.size + 1, 1, none⟩ = some (.int .i64 y.proj) ∧ W.cell? ⟨w.heap.size + 1, 2, none⟩ = some (.bool y.inj) ∧ W.cell? ⟨w.heap.size + 1, 3, none⟩ = some (.int .u8 y.head) ∧ W.cell? ⟨w.heap.size + 1, 4, none⟩ = some (.int .i64 y.label) ∧ W.cell? ⟨w.heap.size + 1, 5, none⟩ = some (.int .u8 y.frm) ∧ W.cell? ⟨w.heap.size + 1, 6, none⟩ = some (.int .u8 y.tto) ∧ W.cell? ⟨w.heap.size + 1, 7, none⟩ = some (.slice ta tn tc))) := fun W h => by
    obtain ⟨a0, a1, a2, a3, a4, a5, a6, a7⟩ := (tcells_at ((h.block w.heap.size (by omega)).trans hS0)).1
    obtain ⟨b0, b1, b2, b3, b4, b5, b6, b7⟩ := (tcells_at ((h.block (w.heap.size + 1) (by omega)).trans hS1)).1
    exact ⟨a0, a1, a2, a3, a4, a5, a6, a7, b0, b1, b2, b3, b4, b5, b6, b7⟩
  clear hS0 hS1
  rw [← hW0]
  clear hW0
  obtain ⟨K2, hK2⟩ : ∃ K2, K2 = w.heap.size + 2 := ⟨_, rfl⟩
  rw [← hK2] at hZ0 hK9 ⊢
  obtain ⟨K1, hK1⟩ : ∃ K1, K1 = w.heap.size + 1 := ⟨_, rfl⟩
  rw [← hK1] at HT hY0 ⊢
  obtain ⟨K0, hK0⟩ : ∃ K0, K0 = w.heap.size := ⟨_, rfl⟩
  rw [← hK0] at HT
  rw [← hK0]
  have HK : Aside (K0 = w.heap.size ∧ K1 = w.heap.size + 1 ∧ K2 = w.heap.size + 2 ∧ K2 < W0.heap.size) := ⟨hK0, hK1, hK2, hK9⟩
  have h12 : K1 ≠ K2 := by omega
  have h21 : K2 ≠ K1 := by omega
  have h01 : K0 ≠ K1 := by omega
  have h10 : K1 ≠ K0 := by omega
  have h02 : K0 ≠ K2 := by omega
  have h20 : K2 ≠ K0 := by omega
  have HB0 : Aside (Below w.heap.size w W0) := hB0
  have HZ : Aside (∀ W, Below W0.heap.size W0 W → W.heap[K2]? = some (.cells (tcells ⟨0, 0, false, 0, 0, 0, 0⟩ (.slice none 0 0)) 31 (0, 0))) := fun W h => (h.block K2 hK9).trans hZ0
  have HY : Aside (∀ W, Below W0.heap.size W0 W → W.frozen? ⟨K1, 1, none⟩ = false) := fun W h => (h.frozen (p := ⟨K1, 1, none⟩) (by show K1 < W0.heap.size; omega)).trans hY0
  clear hB0 hK0 hK1 hK2 hZ0 hK9 hY0
  obtain ⟨s0, s1, s2, s3, s4, s5, s6, s7, t0, t1, t2, t3, t4, t5, t6, t7⟩ := HT.out W0 (Below.refl _ _)
  go_wp2_with (go_at_call 25; refine (ce _).mono ?_; rintro e w2 ⟨rfl, hB2⟩; clear s0 s1 s2 s3 s4 s5 s6 s7 t0 t1 t2 t3 t4 t5 t6 t7; obtain ⟨s0, s1, s2, s3, s4, s5, s6, s7, t0, t1, t2, t3, t4, t5, t6, t7⟩ := HT.out w2 hB2; obtain ⟨⟨z0, z1, z2, z3, z4, z5, z6, z7⟩, y0, y1, y2, y3, y4, y5, y6, y7⟩ := tcells_at (HZ.out w2 hB2))
  obtain ⟨W9, hW9⟩ : ∃ W9, W9 = set8 w2 K2 ⟨7, x.proj, false, x.head, y.proj, x.head, y.head⟩ (.slice none 0 0) := ⟨_, rfl⟩
  have hb9 : Below w.heap.size w W9 := by rw [hW9]; exact set8_below (HB0.out.trans (hB2.mono HB0.out.size)) (by have := HK.out; omega)
  have hz9 : W9.heap[K2]? = some (.cells (tcells ⟨7, x.proj, false, x.head, y.proj, x.head, y.head⟩ (.slice none 0 0)) 31 (0, 0)) := by rw [hW9]; exact set8_same (HZ.out w2 hB2)
  obtain ⟨⟨v0, v1, v2, v3, v4, v5, v6, v7⟩, -⟩ := tcells_at hz9
  change bodyPost _ _ _ _ _ (set8 w2 K2 ⟨7, x.proj, false, x.head, y.proj, x.head, y.head⟩ (.slice none 0 0))
  rw [← hW9]
  refine bodyPost_ret (v := tree ⟨7, x.proj, false, x.head, y.proj, x.head, y.head⟩ (.slice none 0 0)) (by simp [results, Tryz.results31, go_sem, v0, v1, v2, v3, v4, v5, v6, v7]) rfl ?_
  refine ⟨?_, hb9⟩
  exact HR.out _ _ rfl
end Go.Proofs.YtaaokecdmbmgbaaGreatDoor
