/- The bag with rows of ints in it, and the places that are asked for. -/
import Derived.Test.YtkcehgpcimlamaaDoorBgReady
import Derived.Test.YtkcehgpcimlamaaDoorBgApa
import Derived.Test.YtkcehgpcimlamaaDoorRefG
import Derived.Test.YtkcehgpcimlamaaDoorRefH
namespace Go.Proofs.YtkcehgpcimlamaaDoor
open Go.RowKit
set_option maxRecDepth 100000

theorem likes_refl : ∀ l : List Tr.Nd, likes l l = true
  | [] => rfl
  | x :: l => by rw [likes, likes_refl l]; simp [likeB]

/-- The bag at block H, the places at block H + 1, and the rows so far. -/
structure Bagd (w : World) (H : Nat) (P : Array Value) (v : Value) (vs : List Value) : Prop where
  blk : w.heap[H]? = some (.cells (Bg.bag0.setIfInBounds 1 v) 55 (0, 0))
  pls : w.heap[H + 1]? = some (.cells P 3 (0, 0))
  own : w.ownsRow (H + 2) 56 1 v vs.length vs
  rows : ∀ (k : Nat) (u : Value), vs[k]? = some u → ∃ a l c xs, u = .slice a l c ∧ l ≤ 1000000 ∧ w.ownsRow (H + 2) 3 1 u l xs ∧ ∀ b, u.ownBlock = some b → v.ownBlock ≠ some b
  apart : ∀ (n k : Nat) (u u' : Value) (b : Nat), vs[n]? = some u → vs[k]? = some u' → n ≠ k → u.ownBlock = some b → u'.ownBlock ≠ some b
theorem Bagd.below {w w' : World} {H : Nat} {P : Array Value} {v : Value} {vs : List Value} (h : Bagd w H P v vs) (hB : Below w.heap.size w w') : Bagd w' H P v vs :=
  ⟨(hB.block H (Array.getElem?_eq_some_iff.1 h.blk).1).trans h.blk, (hB.block (H + 1) (Array.getElem?_eq_some_iff.1 h.pls).1).trans h.pls, own_below h.own hB,
    fun k u hu => by obtain ⟨a, l, c, xs, e, h1, h2, h3⟩ := h.rows k u hu; exact ⟨a, l, c, xs, e, h1, own_below h2 hB, h3⟩, h.apart⟩
theorem own_two8 {w w' : World} {H e n B : Nat} {row : Option Nat} {v : Value} {xs : List Value} (h : w.ownsRow H e 1 v n xs) (hT : Bg.Two w w' B row) (hb : ∀ b, v.ownBlock = some b → b ≠ B ∧ some b ≠ row) : w'.ownsRow H e 1 v n xs := Bg.own_two h hT hb
theorem Bagd.add {w w' : World} {H : Nat} {P : Array Value} {v : Value} {vs : List Value} (h : Bagd w H P v vs) {la : Option Addr} {ln lc g cap : Nat} {xs : List Value} (hu : w.ownsRow (H + 2) 3 1 (.slice la ln lc) ln xs) (hl : ln ≤ 1000000)
    (hf : ∀ b, (Value.slice la ln lc).ownBlock = some b → v.ownBlock ≠ some b ∧ ∀ (k : Nat) (u : Value), vs[k]? = some u → u.ownBlock ≠ some b)
    (c1 : w'.heap[H]? = some (.cells ((Bg.bag0.setIfInBounds 1 v).setIfInBounds 1 (.slice (some ⟨g, 0, none⟩) (vs.length + 1) cap)) 55 (0, 0)))
    (c2 : w'.ownsRow (H + 2) 56 1 (.slice (some ⟨g, 0, none⟩) (vs.length + 1) cap) (vs.length + 1) (vs ++ [.slice la ln lc])) (c3 : v.ownBlock = some g ∨ w.heap.size ≤ g) (c4 : Bg.Two w w' H v.ownBlock) :
    Bagd w' H P (.slice (some ⟨g, 0, none⟩) (vs.length + 1) cap) (vs ++ [.slice la ln lc]) := by
  have hH1 := (Array.getElem?_eq_some_iff.1 h.pls).1
  have hg : ∀ u : Value, ∀ l xs, w.ownsRow (H + 2) 3 1 u l xs → (∀ b, u.ownBlock = some b → v.ownBlock ≠ some b) → ∀ b, u.ownBlock = some b → (Value.slice (some ⟨g, 0, none⟩) (vs.length + 1) cap).ownBlock ≠ some b := by
    intro u l xs ho hv b hb e
    have e' : g = b := by simpa [Value.ownBlock] using e
    subst e'
    rcases c3 with c3 | c3
    · exact hv g hb c3
    · have := (ho.lt g hb).2; omega
  have keep : ∀ u : Value, ∀ l xs, w.ownsRow (H + 2) 3 1 u l xs → (∀ b, u.ownBlock = some b → v.ownBlock ≠ some b) → w'.ownsRow (H + 2) 3 1 u l xs := by
    intro u l xs ho hv
    refine own_two8 ho c4 (fun b hb => ⟨?_, fun e => hv b hb e.symm⟩)
    have := (ho.lt b hb).1; omega
  refine ⟨?_, ?_, ?_, ?_, ?_⟩
  · rw [Bg.set_set] at c1; exact c1
  · refine (c4.block (H + 1) hH1 (by omega) ?_).trans h.pls
    intro e
    have := (h.own.lt _ e.symm).1; omega
  · rw [List.length_append]; exact c2
  · intro k u hk
    by_cases hkl : k < vs.length
    · rw [List.getElem?_append_left hkl] at hk
      obtain ⟨a, l, c, xs, e, h1, h2, h3⟩ := h.rows k u hk
      exact ⟨a, l, c, xs, e, h1, keep u l xs h2 h3, hg u l xs h2 h3⟩
    · have hl2 := (List.getElem?_eq_some_iff.1 hk).1
      simp at hl2
      obtain rfl : k = vs.length := by omega
      simp at hk
      subst hk
      have hv := fun b hb => (hf b hb).1
      exact ⟨la, ln, lc, xs, rfl, hl, keep _ _ _ hu hv, hg _ _ _ hu hv⟩
  · intro n k u u' b hn hk hne hb
    by_cases hnl : n < vs.length
    · rw [List.getElem?_append_left hnl] at hn
      by_cases hkl : k < vs.length
      · rw [List.getElem?_append_left hkl] at hk
        exact h.apart n k u u' b hn hk hne hb
      · have hl2 := (List.getElem?_eq_some_iff.1 hk).1
        simp at hl2
        obtain rfl : k = vs.length := by omega
        simp at hk
        subst hk
        intro e
        exact (hf b e).2 n u hn hb
    · have hl2 := (List.getElem?_eq_some_iff.1 hn).1
      simp at hl2
      obtain rfl : n = vs.length := by omega
      simp at hn
      subst hn
      have hkl : k < vs.length := by have := (List.getElem?_eq_some_iff.1 hk).1; simp at this; omega
      rw [List.getElem?_append_left hkl] at hk
      exact (hf b hb).2 k u' hk

/-- What Apart answers of such a bag. -/
theorem apart_bagd {w : World} {H : Nat} {P : Array Value} {v : Value} {vs : List Value} (h : Bagd w H P v vs) (hn : 0 < vs.length) (hn9 : vs.length ≤ 300) :
    Calls Tryd.prog 28 #[.pointer (some ⟨H, 0, none⟩)] w fun e w' => e = .returned (.bool true) ∧ Below H w w' := by
  obtain ⟨g, cap, rfl, hcap, hg2, hcell⟩ := own_cells h.own hn
  have hH1 := (Array.getElem?_eq_some_iff.1 h.blk).1
  have hgl := (h.own.lt g rfl).2
  have hL : Bg.Lain w H H g vs.length cap vs (fun _ => 0) := by
    refine ⟨?_, rfl, hn9, by omega, hH1, hgl, fun n u hu => ?_, fun n u hu => ?_, h.apart⟩
    · rw [(block_cells h.blk).1 1]
      simp [Bg.bag0]
    · have hl := (List.getElem?_eq_some_iff.1 hu).1
      rw [hcell n (by omega)]; exact hu
    · obtain ⟨a, l, c, xs, e, h1, h2, h3⟩ := h.rows n u hu
      refine ⟨a, l, c, xs, e, h1, own_mono h2 (by omega), fun j hj => absurd hj (by omega), fun b hb => ⟨?_, ?_⟩⟩
      · have := (h2.lt b hb).1; omega
      · intro e2; exact h3 b hb (by rw [e2]; rfl)
  have hbare : Bg.Bare w H := Bg.bare_of rfl h.blk
  have hT := Bg.apartTexts_any w H H g vs.length cap vs hL hcap (Nat.le_of_lt hH1) (fun _ _ => trivial)
  refine (Bg.apart_of H (fun w' => Below H w w') w hbare (hT.mono ?_)).mono ?_
  · rintro e w' ⟨rfl, hk⟩
    refine ⟨rfl, Bg.bare_of rfl (hk.bag.trans h.blk), hk.below⟩
  · rintro e w' ⟨rfl, hb⟩
    exact ⟨rfl, hb⟩
end Go.Proofs.YtkcehgpcimlamaaDoor
