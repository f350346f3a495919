/- The walk of apartTexts. -/
import Derived.Test.YtkcehgpcimlamaaGreatDoorTbApt
namespace Go.Proofs.YtkcehgpcimlamaaGreatDoor.Tb
open Go.RowKit

/-- What is kept all along. -/
structure Kp (w wr : World) (H B : Nat) : Prop where
  below : Below H w wr
  bag : wr.heap[B]? = w.heap[B]?

theorem kp_below {w a b : World} {H B : Nat} (h : Kp w a H B) (hB : Below a.heap.size a b) (hH : H ≤ a.heap.size) (hb : B < a.heap.size) : Kp w b H B :=
  ⟨h.below.trans (hB.mono hH), (hB.block B hb).trans h.bag⟩
theorem kp_set {w a : World} {H B b k : Nat} (h : Kp w a H B) (hb : H ≤ b) (hne : B ≠ b) (x : Value) : Kp w (a.setCell ⟨b, k, none⟩ x) H B :=
  ⟨h.below.setCell hb _, (Below.heap_setCell _ _ _ _ hne).trans h.bag⟩

theorem kp_drew {w a : World} {H B : Nat} (h : Kp w a H B) : Kp w a.drew H B := ⟨h.below.drew, h.bag⟩

/-- Of row n, that has a place i: where it lies. -/
theorem lain_at {w : World} {H B g N cT : Nat} {vs : List Value} {m : Nat → Nat} (h : Lain w H B g N cT vs m) {n : Nat} (hn : n < N) : ∃ a l c, vs[n]? = some (.slice a l c) ∧ w.cell? ⟨g, n, none⟩ = some (.slice a l c) ∧ l ≤ 1000000 ∧ ∀ i, i < l → ∃ b, a = some ⟨b, 0, none⟩ ∧ H ≤ b ∧ b ≠ B ∧ b ≠ g ∧ b < w.heap.size ∧ l ≤ c ∧ (∃ u, w.cell? ⟨b, i, none⟩ = some u) ∧ w.frozen? ⟨b, i, none⟩ = false := by
  have hl : n < vs.length := by rw [h.num]; exact hn
  have hv := List.getElem?_eq_getElem hl
  generalize vs[n] = v at hv
  obtain ⟨a, l, c, xs, rfl, h2, h3, h4, h5⟩ := h.row n v hv
  refine ⟨a, l, c, hv, h.cell n _ hv, h2, fun i hi => ?_⟩
  obtain ⟨hx, ⟨h0, h1⟩ | ⟨b, cap, cur, h0, hg, hh, hc, _, hs, ht⟩⟩ := h3
  · omega
  · obtain ⟨rfl, rfl⟩ : a = some ⟨b, 0, none⟩ ∧ c = cap := by simpa using h0
    refine ⟨b, rfl, hg, (h5 b rfl).1, (h5 b rfl).2, (Array.getElem?_eq_some_iff.1 hh).1, hc, ⟨cur[i]'(by omega), ?_⟩, (block_cells hh).2 i⟩
    rw [(block_cells hh).1 i]
    exact Array.getElem?_eq_getElem _

/-- The rows before row n are marked, row n as far as i, those behind not yet. -/
def Upto (wr : World) (H B g N cT : Nat) (vs : List Value) (n i : Nat) : Prop :=
  ∃ m : Nat → Nat, Lain wr H B g N cT vs m ∧ (∀ k a l c, k < n → vs[k]? = some (.slice a l c) → l ≤ m k) ∧ m n = i ∧ ∀ k, n < k → m k = 0
theorem upto_below {w w' : World} {H B g N cT : Nat} {vs : List Value} {n i : Nat} (h : Upto w H B g N cT vs n i) (hB : Below w.heap.size w w') : Upto w' H B g N cT vs n i := by
  obtain ⟨m, h1, h2⟩ := h
  exact ⟨m, lain_below h1 hB, h2⟩
theorem upto_drew {w : World} {H B g N cT : Nat} {vs : List Value} {n i : Nat} (h : Upto w H B g N cT vs n i) : Upto w.drew H B g N cT vs n i := upto_below h (Below.refl _ _).drew
theorem upto_mark {w : World} {H B g N cT : Nat} {vs : List Value} {n i : Nat} (h : Upto w H B g N cT vs n i) {l c b : Nat} (hv : vs[n]? = some (.slice (some ⟨b, 0, none⟩) l c)) (hi : i < l) :
    Upto (w.setCell ⟨b, i, none⟩ (.string (mk n i))) H B g N cT vs n (i + 1) := by
  obtain ⟨m, h1, h2, rfl, h4⟩ := h
  refine ⟨_, lain_mark h1 hv hi, ?_, by simp, ?_⟩
  · intro k a l c hk hvk
    rw [if_neg (by omega)]
    exact h2 k a l c hk hvk
  · intro k hk
    rw [if_neg (by omega)]
    exact h4 k hk
theorem upto_next {w : World} {H B g N cT : Nat} {vs : List Value} {n : Nat} {a : Option Addr} {l c : Nat} (h : Upto w H B g N cT vs n l) (hv : vs[n]? = some (.slice a l c)) : Upto w H B g N cT vs (n + 1) 0 := by
  obtain ⟨m, h1, h2, h3, h4⟩ := h
  refine ⟨m, h1, ?_, h4 _ (by omega), fun k hk => h4 k (by omega)⟩
  intro k a' l' c' hk hvk
  by_cases hkn : k = n
  · subst hkn
    rw [hv] at hvk
    obtain ⟨-, rfl, -⟩ : a = a' ∧ l = l' ∧ c = c' := by simpa using hvk
    omega
  · exact h2 k a' l' c' (by omega) hvk

end Go.Proofs.YtkcehgpcimlamaaGreatDoor.Tb
