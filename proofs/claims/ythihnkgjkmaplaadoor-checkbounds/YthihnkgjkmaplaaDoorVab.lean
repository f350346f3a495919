/- CheckBounds returns true. -/
import Derived.Test.YthihnkgjkmaplaaDoorVaa
namespace Go.Proofs.YthihnkgjkmaplaaDoor
open Go.RowKit Ck
open T3.Tp (Ty enc cns met)
open Tr (flat wf)
set_option maxRecDepth 100000
set_option linter.unusedSimpArgs false

/-- Expr answers an error at a tree, with no names. -/
def ErrAt (l : List Tr.Nd) (N Th : List (List UInt8)) (q p : Int) : Prop := ∀ (W : World) (v vn vt : Value), IsNodes W v l → T3.IsTexts W vn N → T3.IsTexts W vt Th → HasG W → 5 ≤ W.heap.size →
  Calls Tryd.prog 8 #[v, vn, vt] W fun e w' => ∃ b c, e = .returned (.tuple #[.slice b 0 c, .int .i64 q, .int .i64 p]) ∧ Below W.heap.size W w'
theorem errAt {t0 : Tr.T} {N Th : List (List UInt8)} {ts0 : List Ty} {q : Int × Nat} (hf : Fits (flat t0)) (hN : N.length ≤ 1000) (hs : N.all (fun p => decide (p.length ≤ 1000)) = true) (hE : envB N Th = true) (hT : Th = ts0.map enc) (hc : (chkN (flat t0)).1 = 0) (hw : wf t0) (h : ckT (envOf N ts0) t0 0 = .error q) : ErrAt (flat t0) N Th q.1 (q.2 : Int) :=
  fun _ _ _ _ hv hn ht hG hg => expr_err hf hN (small_names hs) hE hT hc hw rfl h hv hn ht hG hg

theorem fits_of {l : List Tr.Nd} (h : (decide (l.length ≤ 1000) && l.all (fun x => decide (x.kids ≤ 1000) && decide (x.s.size ≤ 1000))) = true) : Fits l := by
  rw [Bool.and_eq_true] at h
  have h1 := of_decide_eq_true h.1
  have h2 := List.all_eq_true.1 h.2
  refine ⟨by omega, fun x hx => ?_, fun x hx => ?_⟩
  · have := h2 x hx; rw [Bool.and_eq_true] at this; have := of_decide_eq_true this.1; omega
  · have := h2 x hx; rw [Bool.and_eq_true] at this; have := of_decide_eq_true this.2; unfold maxLen; omega

def negT : Tr.T := .nd (nod 16 1 [] [] []) [pairsT 32]
def fnA : Tr.T := .nd (nod 5 1 [120] (longL 30) [108, 108, 105]) [.nd (nod 4 0 [121] [] []) []]
def fnB : Tr.T := .nd (nod 5 1 [120] (longL 30) [108, 105]) [.nd (nod 4 0 [121] [] []) []]
def ifT : Tr.T := .nd (nod 9 3 [] [] []) [.nd (nod 3 0 [] [] []) [], .nd (nod 4 0 [120] [] []) [], .nd (nod 4 0 [121] [] []) []]
def tx1 : List UInt8 := [44] ++ longL 16 ++ [63]
def tx2 : List UInt8 := [44, 63] ++ longL 16
theorem b2 : ErrAt (pairsL 32) [] [] 21 0 := by
  have := errAt (t0 := pairsT 32) (N := []) (Th := []) (ts0 := []) (fits_of (by kernel_rfl)) (by decide) (by decide) (by kernel_rfl) rfl (by kernel_rfl) (pairs_wf 32) pairs32
  rw [pairs_flat] at this; exact this
theorem b3 : ErrAt (nod 16 1 [] [] [] :: pairsL 32) [] [] 21 1 := by
  have := errAt (t0 := negT) (N := []) (Th := []) (ts0 := []) (fits_of (by kernel_rfl)) (by decide) (by decide) (by kernel_rfl) rfl (by kernel_rfl) ⟨rfl, pairs_wf 32, trivial⟩ neg32
  rw [show flat negT = nod 16 1 [] [] [] :: pairsL 32 by simp [negT, flat, Tr.flats, pairs_flat]] at this; exact this
theorem b6 : ErrAt (flat fnA) [] [] 21 0 := errAt (t0 := fnA) (N := []) (Th := []) (ts0 := []) (fits_of (by kernel_rfl)) (by decide) (by decide) (by kernel_rfl) rfl (by kernel_rfl) ⟨rfl, ⟨rfl, trivial⟩, trivial⟩ fnLarge
theorem b7 : ErrAt (flat fnB) [] [] 22 1 := errAt (t0 := fnB) (N := []) (Th := []) (ts0 := []) (fits_of (by kernel_rfl)) (by decide) (by decide) (by kernel_rfl) rfl (by kernel_rfl) ⟨rfl, ⟨rfl, trivial⟩, trivial⟩ fnFits
theorem b8 : ErrAt (flat ifT) [[120], [121]] [tx1, tx2] 21 0 := errAt (t0 := ifT) (N := [[120], [121]]) (Th := [tx1, tx2]) (ts0 := [tyOf tx1, tyOf tx2]) (fits_of (by kernel_rfl)) (by decide) (by decide) (by kernel_rfl) (by kernel_rfl) (by kernel_rfl) ⟨rfl, ⟨rfl, trivial⟩, ⟨rfl, trivial⟩, ⟨rfl, trivial⟩, trivial⟩ ifLarge
theorem b1 (W : World) (v : Value) (hv : IsNodes W v (pairsL 31)) (hG : HasG W) (hg : 5 ≤ W.heap.size) :
    Calls Tryd.prog 8 #[v, .slice none 0 0, .slice none 0 0] W fun e w' => ∃ b c, e = .returned (.tuple #[.slice b 63 c, .int .i64 0, .int .i64 0]) ∧ Below W.heap.size W w' := by
  have h := pairs31
  cases hr : ckT [] (pairsT 31) 0 with
  | error q => rw [hr] at h; simp [okLen] at h
  | ok a =>
    rw [hr] at h
    have ha : a.length = 63 := h
    rw [← pairs_flat] at hv
    refine (expr_ok (N := []) (Th := []) (ts0 := []) (fits_of (by kernel_rfl)) (by decide) (small_names (by decide)) (by kernel_rfl) rfl (by kernel_rfl) (pairs_wf 31) rfl hr hv (txs_nil W) (txs_nil W) hG hg).mono ?_
    rintro e w' ⟨b, c, he, _, hB⟩
    rw [ha] at he
    exact ⟨b, c, he, hB⟩

theorem lit_nodes (w : World) (l : List Tr.Nd) (A : Array Value) (n : Nat) (h : (nrow l).toArray = A) (hn : l.length = n) : IsNodes (w.alloc (.cells A 45)) (.slice (some ⟨w.heap.size, 0, none⟩) n n) l := by
  subst h hn; exact IsNodes.lit w l 45 (0, 0) l.length (Nat.le_refl _)
theorem long_step (k : Nat) : (⟨#[44, 105]⟩ : ByteArray) ++ S (longL k) = S (longL (k + 1)) := by apply ByteArray.ext; simp [S, longL]
theorem long_size (k : Nat) : (S (longL k)).size = 2 * k + 1 := by
  rw [S_size]
  induction k with
  | zero => rfl
  | succ k ih => simp [longL, ih]; omega
end Go.Proofs.YthihnkgjkmaplaaDoor
