/- Package value: what is still to be told: the last part taken off. -/
import Derived.Test.YtkmoeflodafoeaaGreatDoorUaz
namespace Go.Proofs.YtkmoeflodafoeaaGreatDoor.Vl
open Go.RowKit
open T3.Tp (Ty)
set_option maxRecDepth 100000
set_option linter.unusedSimpArgs false
set_option linter.unusedVariables false
theorem prow_len (P : List Pt) : (prow P).length = P.length * 3 := by
  induction P with
  | nil => rfl
  | cons a P ih => simp [prow, pcell] at ih ⊢; omega
theorem TS.last {w : World} {tb : Nat} {lo lr : Value} {O : List Ob} {P : List Pt} {p : Pt} (h : TS w tb lo lr O (P ++ [p])) :
    ∃ g cap, lr = .slice (some ⟨g, 0, none⟩) (P.length + 1) cap ∧ tb < g ∧ g < w.heap.size ∧ lo.ownBlock ≠ some g ∧ P.length + 1 ≤ cap ∧ w.cell? ⟨g, P.length * 3, none⟩ = some p.v ∧ w.cell? ⟨g, P.length * 3 + 1, none⟩ = some p.f ∧ w.cell? ⟨g, P.length * 3 + 2, none⟩ = some (.int .i64 p.d) ∧ (∀ o, w.frozen? ⟨g, o, none⟩ = false) := by
  obtain ⟨h1, ⟨rfl, h0⟩ | ⟨g, cap, cur, rfl, hg, hh, hc, _, hs, ht⟩⟩ := h.p
  · simp at h0
  · have hn : ∀ k < 3, cur[P.length * 3 + k]? = (pcell p)[k]? := fun k hk => by
      rw [← Array.getElem?_toList]
      have := congrArg (fun l => l[P.length * 3 + k]?) ht
      simp only [List.getElem?_take] at this
      rw [if_pos (by simp; omega)] at this
      rw [this, prow_app, List.getElem?_append_right (by rw [prow_len]; omega), prow_len]
      simp [prow]
    refine ⟨g, cap, by simp, hg, (Array.getElem?_eq_some_iff.1 hh).1, fun e => h.ne e rfl, by simpa using hc, ?_, ?_, ?_, (ptr_block hh).2.1⟩
    · rw [(ptr_block hh).1]; have := hn 0 (by omega); simpa [pcell] using this
    · rw [(ptr_block hh).1]; have := hn 1 (by omega); simpa [pcell] using this
    · rw [(ptr_block hh).1]; have := hn 2 (by omega); simpa [pcell] using this
theorem TS.pop {w : World} {tb : Nat} {lo : Value} {O : List Ob} {P : List Pt} {p : Pt} {g cap : Nat} (h : TS w tb lo (.slice (some ⟨g, 0, none⟩) (P.length + 1) cap) O (P ++ [p])) (a b c : Value) :
    TS ((((w.setCell ⟨g, P.length * 3, none⟩ a).setCell ⟨g, P.length * 3 + 1, none⟩ b).setCell ⟨g, P.length * 3 + 2, none⟩ c).setCell ⟨tb, 1, none⟩ (.slice (some ⟨g, 0, none⟩) P.length cap)) tb lo (.slice (some ⟨g, 0, none⟩) P.length cap) O P := by
  obtain ⟨h1, ⟨e0, h0⟩ | ⟨g', cap', cur, e0, hg, hh, hc, hm, hs, ht⟩⟩ := h.p
  · simp at h0
  · obtain ⟨rfl, rfl⟩ : g = g' ∧ cap = cap' := by simpa using e0
    have hgt : tb ≠ g := by omega
    have hb := set_blk (set_blk (set_blk hh (P.length * 3) a) (P.length * 3 + 1) b) (P.length * 3 + 2) c
    generalize hw3 : ((w.setCell ⟨g, P.length * 3, none⟩ a).setCell ⟨g, P.length * 3 + 1, none⟩ b).setCell ⟨g, P.length * 3 + 2, none⟩ c = w3 at *
    have kp : ∀ k, k ≠ g → w3.heap[k]? = w.heap[k]? := fun k hk => by
      rw [← hw3, Below.heap_setCell _ _ _ _ hk, Below.heap_setCell _ _ _ _ hk, Below.heap_setCell _ _ _ _ hk]
    have ht3 : w3.heap[tb]? = some (.cells #[lo, .slice (some ⟨g, 0, none⟩) (P.length + 1) cap] 152 (0, 0)) := (kp tb hgt).trans h.t
    refine ⟨?_, ?_, ?_⟩
    · have := set_blk ht3 1 (.slice (some ⟨g, 0, none⟩) P.length cap)
      simpa using this
    · refine own_keep h.o fun q e => ?_
      have hq := World.ownsRow.lt h.o q e
      rw [Below.heap_setCell _ _ _ _ (by intro e'; simp at e'; omega)]
      exact kp q (fun e' => h.ne (e' ▸ e) rfl)
    · refine ⟨prow_len P, .inr ⟨g, cap, ((cur.setIfInBounds (P.length * 3) a).setIfInBounds (P.length * 3 + 1) b).setIfInBounds (P.length * 3 + 2) c, rfl, hg, ?_, by simp at hc; omega, hm, ?_, ?_⟩⟩
      · rw [Below.heap_setCell _ _ _ _ (by intro e'; simp at e'; omega)]
        exact hb
      · simpa using hs
      · simp only [Array.toList_setIfInBounds]
        rw [List.take_set_of_le (by omega), List.take_set_of_le (by omega), List.take_set_of_le (by omega)]
        have := congrArg (List.take (P.length * 3)) ht
        rw [List.take_take, prow_app, List.take_append_of_le_length (by rw [prow_len]; omega)] at this
        have h2 : List.take (P.length * 3) (prow P) = prow P := List.take_of_length_le (by rw [prow_len]; omega)
        rw [h2] at this
        rw [← this, Nat.min_eq_left (by simp; omega)]
end Go.Proofs.YtkmoeflodafoeaaGreatDoor.Vl
