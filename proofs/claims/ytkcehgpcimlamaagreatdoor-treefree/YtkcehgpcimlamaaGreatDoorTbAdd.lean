/- One more list of texts in the bag. -/
import Derived.Test.YtkcehgpcimlamaaGreatDoorTbGrow
namespace Go.Proofs.YtkcehgpcimlamaaGreatDoor.Tb
open Go.RowKit


/-- What a step leaves: all old blocks but two. -/
structure Two (w w' : World) (B : Nat) (row : Option Nat) : Prop where
  os : w'.os = w.os
  tape : w'.tape = w.tape
  output : w'.output = w.output
  size : w.heap.size ≤ w'.heap.size
  block : ∀ k, k < w.heap.size → k ≠ B → some k ≠ row → w'.heap[k]? = w.heap[k]?

theorem set_at {w : World} {g : Nat} {cur : Array Value} {T : TypeId} (h : w.heap[g]? = some (.cells cur T (0, 0))) (k : Nat) (x : Value) : (w.setCell ⟨g, k, none⟩ x).heap[g]? = some (.cells (cur.setIfInBounds k x) T (0, 0)) := by
  simp [World.setCell, Array.getElem?_modify, h]
theorem own_set {w : World} {base e n B k : Nat} {v : Value} {xs : List Value} (h : w.ownsRow base e 1 v n xs) (hb : v.ownBlock ≠ some B) (x : Value) : (w.setCell ⟨B, k, none⟩ x).ownsRow base e 1 v n xs := by
  obtain ⟨h1, h2 | ⟨g, cap, cur, rfl, hg, hh, hr⟩⟩ := h
  · exact ⟨h1, .inl h2⟩
  · refine ⟨h1, .inr ⟨g, cap, cur, rfl, hg, ?_, hr⟩⟩
    rw [Below.heap_setCell _ _ _ _ (by intro e; exact hb (by simp [Value.ownBlock, e]))]
    exact hh

set_option maxRecDepth 100000 in
set_option maxHeartbeats 2000000 in
theorem addTexts_any (B base n : Nat) (w : World) (v : Value) (la : Option Addr) (ln lc : Nat) (xs : List Value) (C : Array Value) (hB : w.heap[B]? = some (.cells C 47 (0, 0))) (h4 : C[4]? = some v)
    (hown : w.ownsRow base 25 1 v n xs) (hn : n < 300) (hbase : base ≤ w.heap.size) (hne : v.ownBlock ≠ some B) (hbB : B < base) :
    Calls Tryz.prog 7 #[.pointer (some ⟨B, 0, none⟩), .slice la ln lc] w fun e w' => e = .returned (.tuple #[]) ∧ ∃ g cap, w'.heap[B]? = some (.cells (C.setIfInBounds 4 (.slice (some ⟨g, 0, none⟩) (n + 1) cap)) 47 (0, 0)) ∧ w'.ownsRow base 25 1 (.slice (some ⟨g, 0, none⟩) (n + 1) cap) (n + 1) (xs ++ [.slice la ln lc]) ∧ (v.ownBlock = some g ∨ w.heap.size ≤ g) ∧ Two w w' B v.ownBlock := by
  obtain ⟨va, vc, rfl⟩ := own_len hown
  have hBl : B < w.heap.size := (Array.getElem?_eq_some_iff.1 hB).1
  have hc4 := cell_of hB h4
  obtain ⟨i0, hi, hz0, hz1, hz2⟩ := info_parts info26
  have hn' : (n : Int) < 300 := by omega
  go_enter Tryz.func7, Tryz.ntmps7
  go_wp2_with (at_builtin; go_must (refine wpList_append_stays _ rfl _ _ 32 rfl base 25 i0 (.slice none 0 0) 24 ty40 hi hz0 hz1 hz2 rfl (.slice va n vc) _ _ rfl (hown.alloc _) ⟨w.heap.size, 0, none⟩ 1 (.slice la ln lc) rfl (cells_list_new _ [.slice la ln lc] 25) rfl (by unfold maxLen; omega) (by omega) (by simp; omega) ?_); intro g cap w2 hown2 hst hloc; have hB2 := (hst.block B (by simp; omega) (fun e => hne e.symm)).trans ((Below.heap_alloc _ _ _ hBl).trans hB); have hc42 := cell_of hB2 h4; have hf2 := (block_cells hB2).2 4)
  go_end0
  refine ⟨rfl, g, cap, set_at hB2 4 _, ?_, ?_, ?_⟩
  · refine own_set hown2 ?_ _
    intro e
    have : g = B := by simpa [Value.ownBlock] using e
    obtain ⟨_, ⟨h0, _⟩ | ⟨g', _, _, h0, hg', _⟩⟩ := hown2
    · cases h0
    · have : g = g' := by simpa [Value.ownBlock] using congrArg Value.ownBlock h0
      omega
  · rcases hloc with h | ⟨h, _⟩
    · exact .inl h
    · simp at h
      exact .inr (by omega)
  · have hs := hst.size
    simp at hs
    refine ⟨hst.os, hst.tape, hst.output, by simp [World.setCell]; omega, fun k hk h1 h2 => ?_⟩
    rw [Below.heap_setCell _ _ _ _ (by intro e; exact h1 e), hst.block k (by simp; omega) h2]
    exact Below.heap_alloc _ _ _ hk
end Go.Proofs.YtkcehgpcimlamaaGreatDoor.Tb
