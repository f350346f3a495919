/- Lists of texts, gathered one by one, and made ready. -/
import Derived.Test.YtgkmoifibcmooaaDoorReady
import Derived.Test.YtgkmoifibcmooaaDoorApa
import Derived.Test.YtgkmoifibcmooaaDoorRlo
namespace Go.Proofs.YtgkmoifibcmooaaDoor
open Go.RowKit
set_option maxRecDepth 100000

/-- The bag with these lists in it; nothing that was there has changed. -/
structure Gat (w7 w : World) (vs : List Value) : Prop where
  bag : ∃ gv, w.heap[w7.heap.size]? = some (.cells (bag0.setIfInBounds 4 gv) 48 (0, 0)) ∧ w.ownsRow (w7.heap.size + 1) 23 1 gv vs.length vs
  size : w7.heap.size < w.heap.size
  os : w.os = w7.os
  tape : w.tape = w7.tape
  output : w.output = w7.output
  old : ∀ k, k < w7.heap.size → w.heap[k]? = w7.heap[k]?

theorem gat_new (w7 : World) : Gat w7 (w7.alloc (.cells bag0 48)) [] := by
  refine ⟨⟨.slice none 0 0, ?_, own_nil _ _ _ _⟩, by simp, rfl, rfl, rfl, fun k hk => Below.heap_alloc _ _ _ hk⟩
  have h := heap_alloc_new w7 (.cells bag0 48)
  rw [show bag0.setIfInBounds 4 (.slice none 0 0) = bag0 by rfl]
  exact h
theorem gat_add (w7 w : World) (vs : List Value) (h : Gat w7 w vs) (hn : vs.length < 300) (la : Option Addr) (ln lc : Nat) :
    Calls Tryd.prog 10 #[.pointer (some ⟨w7.heap.size, 0, none⟩), .slice la ln lc] w fun e w' => e = .returned (.tuple #[]) ∧ Gat w7 w' (vs ++ [.slice la ln lc]) := by
  obtain ⟨gv, h1, h2⟩ := h.bag
  have hs := h.size
  refine (addTexts_any w7.heap.size (w7.heap.size + 1) vs.length w gv la ln lc vs _ h1 (by simp [bag0]) h2 hn (by omega) ?_ (by omega)).mono ?_
  · intro e
    have := (own_lt h2 e).1
    omega
  · rintro e w' ⟨rfl, g, cap, q1, q2, q3, q4⟩
    have hsz := q4.size
    refine ⟨rfl, ⟨⟨_, by rw [set_set] at q1; exact q1, by rw [List.length_append]; exact q2⟩, by omega, q4.os.trans h.os, q4.tape.trans h.tape, q4.output.trans h.output, fun k hk => ?_⟩⟩
    refine (q4.block k (by omega) (by omega) ?_).trans (h.old k hk)
    intro e
    have := (own_lt h2 e.symm).1
    omega
theorem Gat.below {w7 w : World} {vs : List Value} (h : Gat w7 w vs) : Below w7.heap.size w7 w := ⟨h.os, h.tape, h.output, Nat.le_of_lt h.size, h.old⟩
theorem gat_ready {w7 w : World} {vs : List Value} {H : Nat} (h : Gat w7 w vs) (hn : 0 < vs.length) (hf : vs.length ≤ 300)
    (hown : ∀ (n : Nat) (v : Value), vs[n]? = some v → ∃ a l c xs, v = .slice a l c ∧ l ≤ 1000000 ∧ w7.ownsRow H 9 1 v l xs)
    (hap : ∀ (n k : Nat) (u v : Value) (b : Nat), vs[n]? = some u → vs[k]? = some v → n ≠ k → u.ownBlock = some b → v.ownBlock ≠ some b) :
    ∃ g cT, Lain w H w7.heap.size g vs.length cT vs (fun _ => 0) ∧ Bare w w7.heap.size ∧ vs.length ≤ cT := by
  obtain ⟨gv, h1, h2⟩ := h.bag
  obtain ⟨g, cT, rfl, hc, hg, hcl⟩ := own_cells h2 hn
  have hgl := own_lt h2 (b := g) rfl
  have hs := h.size
  refine ⟨g, cT, ⟨?_, rfl, hf, by omega, hs, hgl.2, ?_, ?_, hap⟩, bare_of rfl h1, hc⟩
  · rw [(block_cells h1).1 4]; simp [bag0]
  · intro n v hv
    have hn' : n < vs.length := (List.getElem?_eq_some_iff.1 hv).1
    rw [hcl n (by omega), hv]
  · intro n v hv
    obtain ⟨a, l, c, xs, e, q1, q2⟩ := hown n v hv
    refine ⟨a, l, c, xs, e, q1, ?_, fun j hj => by omega, fun b hb => ?_⟩
    · exact own_below q2 h.below
    · have := own_lt q2 hb
      exact ⟨by omega, by omega⟩
theorem apart_ok : ApartOk := fun w H B g N cT vs hL hNc hH hTab => apartTexts_any w H B g N cT vs hL hNc hH hTab

/-- The bag finds that lists that lie apart lie apart. -/
theorem gat_apart {w0 w7 w : World} {vs : List Value} (h : Gat w7 w vs) (hB : Below w0.heap.size w0 w7) (ht : Tab w0) (hn : 0 < vs.length) (hf : vs.length ≤ 300)
    (hown : ∀ (n : Nat) (v : Value), vs[n]? = some v → ∃ a l c xs, v = .slice a l c ∧ l ≤ 1000000 ∧ w7.ownsRow w0.heap.size 9 1 v l xs)
    (hap : ∀ (n k : Nat) (u v : Value) (b : Nat), vs[n]? = some u → vs[k]? = some v → n ≠ k → u.ownBlock = some b → v.ownBlock ≠ some b) :
    Calls Tryd.prog 11 #[.pointer (some ⟨w7.heap.size, 0, none⟩)] w fun e w' => e = .returned (.bool true) ∧ Below w0.heap.size w0 w' := by
  obtain ⟨g, cT, hL, hBr, hc⟩ := gat_ready h hn hf hown hap
  have hB2 : Below w0.heap.size w0 w := hB.trans (h.below.mono hB.size)
  have hA := apart_of w7.heap.size (fun w' => Kp w w' w0.heap.size w7.heap.size) w hBr ((apart_ok w w0.heap.size w7.heap.size g _ cT _ hL hc hB2.size (fun w' h => ht.on (hB2.trans h))).mono (fun e w' h => ⟨h.1, fun k hk h4 => (World.cell?_of_block h.2.bag).trans (hBr k hk h4), h.2⟩))
  refine hA.mono ?_
  rintro e w' ⟨rfl, hK⟩
  exact ⟨rfl, hB2.trans hK.below⟩
end Go.Proofs.YtgkmoifibcmooaaDoor
