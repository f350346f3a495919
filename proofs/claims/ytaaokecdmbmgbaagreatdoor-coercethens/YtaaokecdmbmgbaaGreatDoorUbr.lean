/- CoerceThens: what the walk leans on. -/
import Derived.Test.YtaaokecdmbmgbaaGreatDoorUbp
import Derived.Test.YtaaokecdmbmgbaaGreatDoorUbq
import Derived.Test.YtaaokecdmbmgbaaGreatDoorUbo
import Derived.Test.YtaaokecdmbmgbaaGreatDoorUbd
namespace Go.Proofs.YtaaokecdmbmgbaaGreatDoor
open Go.RowKit Cc
set_option maxRecDepth 100000
set_option linter.unusedSimpArgs false
set_option linter.unusedVariables false
set_option maxHeartbeats 400000 in
theorem longT_any (a : Option Addr) (n c : Nat) (w : World) :
    Calls Tryz.prog 5 #[.slice a n c] w fun e w' => e = .returned (.bool (decide (16384 < n))) ∧ w' = w := by
  have h : decide ((16384 : Int) < (n : Int)) = decide (16384 < n) := by rw [decide_eq_decide]; omega
  go_enter Tryz.func5, Tryz.ntmps5
  go_wp2
  go_ret
  exact ⟨ret_b (by first | rfl | exact h), rfl⟩
theorem worksT_at (w W : World) (hW : Below w.heap.size w W) : Calls Tryz.prog 6 #[] W fun e w' => e = .returned (.bool true) ∧ Below w.heap.size w w' :=
  (works_any W).mono (by rintro e w' ⟨rfl, hB⟩; exact ⟨rfl, hW.trans (hB.mono hW.size)⟩)
namespace Cc
def tnE (a b : Option C) : Int := match a, b with
  | some s, some t => if meets s t = true then 0 else 30
  | _, _ => 20
def tnL (a b : Option C) : List N := match a, b with
  | some s, some t => if meets s t = true then flat (thn s t) else []
  | _, _ => []
theorem tn_open {w w' : World} {a b : Option C} {e : Ending} (h : TnEnd w a b e w') : ∃ p c, e = .returned (.tuple #[.slice p (tnL a b).length c, .int .i64 (tnE a b)]) ∧ Own w w' (.slice p (tnL a b).length c) (tnL a b) := by
  have no : ∀ k : Int, e = .returned (.tuple #[.slice none 0 0, .int .i64 k]) → ∃ p c, e = .returned (.tuple #[.slice p ([] : List N).length c, .int .i64 k]) ∧ Own w w' (.slice p ([] : List N).length c) [] := fun k h => ⟨none, 0, h, Own.nil _ _⟩
  cases a with
  | none => exact no 20 h
  | some s =>
    cases b with
    | none => exact no 20 h
    | some t =>
      simp only [TnEnd, tnE, tnL] at h ⊢
      by_cases hm : meets s t = true
      · simp only [hm, if_true] at h ⊢
        obtain ⟨v, rfl, hO⟩ := h
        obtain ⟨p, c, rfl⟩ := Cq.own_len hO
        exact ⟨p, c, rfl, hO⟩
      · simp only [hm] at h ⊢
        exact no 30 h
theorem tnL_len {ls lt : List N} : (tnL (whole ls) (whole lt)).length ≤ ls.length + lt.length := by
  cases e1 : whole ls with
  | none => simp [tnL]
  | some s =>
    cases e2 : whole lt with
    | none => simp [tnL]
    | some t =>
      simp only [tnL]
      have h1 : size s = ls.length := by rw [← flat_len, ← (whole_iff.1 e1).1]
      have h2 : size t = lt.length := by rw [← flat_len, ← (whole_iff.1 e2).1]
      split
      · rw [flat_len]
        have := size_thn s t
        omega
      · simp
end Cc
theorem addFirstC (w : World) (la : Option Addr) (ln lc : Nat) :
    Calls Tryz.prog 14 #[.pointer (some ⟨w.heap.size, 0, none⟩), .slice la ln lc] (w.alloc (.cells Cq.bag0 59)) fun e w' => e = .returned (.tuple #[]) ∧ ∃ g cap, w'.heap[w.heap.size]? = some (.cells (Cq.bag0.setIfInBounds 6 (.slice (some ⟨g, 0, none⟩) 1 cap)) 59 (0, 0)) ∧ w'.ownsRow (w.heap.size + 1) 22 1 (.slice (some ⟨g, 0, none⟩) 1 cap) 1 [.slice la ln lc] ∧ (w.alloc (.cells Cq.bag0 59)).heap.size ≤ g ∧ Cq.Two (w.alloc (.cells Cq.bag0 59)) w' w.heap.size none := by
  refine (Cq.add_any w.heap.size (w.heap.size + 1) 0 (w.alloc (.cells Cq.bag0 59)) (.slice none 0 0) la ln lc [] Cq.bag0 (heap_alloc_new _ _) rfl (Cq.own_nil _ _ _ _) (by decide) (by simp) (by simp [Value.ownBlock]) (by omega)).mono ?_
  rintro e w' ⟨rfl, g, cap, h1, h2, h3, h4⟩
  refine ⟨rfl, g, cap, h1, h2, ?_, h4⟩
  rcases h3 with h3 | h3
  · simp [Value.ownBlock] at h3
  · exact h3
theorem addNextC (B : Nat) (w : World) (g c : Nat) (xs : List Value) (la : Option Addr) (ln lc : Nat) (hb : w.heap[B]? = some (.cells (Cq.bag0.setIfInBounds 6 (.slice (some ⟨g, 0, none⟩) 1 c)) 59 (0, 0))) (ho : w.ownsRow (B + 1) 22 1 (.slice (some ⟨g, 0, none⟩) 1 c) 1 xs) :
    Calls Tryz.prog 14 #[.pointer (some ⟨B, 0, none⟩), .slice la ln lc] w fun e w' => e = .returned (.tuple #[]) ∧ ∃ g2 c2, w'.heap[B]? = some (.cells ((Cq.bag0.setIfInBounds 6 (.slice (some ⟨g, 0, none⟩) 1 c)).setIfInBounds 6 (.slice (some ⟨g2, 0, none⟩) 2 c2)) 59 (0, 0)) ∧ w'.ownsRow (B + 1) 22 1 (.slice (some ⟨g2, 0, none⟩) 2 c2) 2 (xs ++ [.slice la ln lc]) ∧ (g = g2 ∨ w.heap.size ≤ g2) ∧ Cq.Two w w' B (some g) := by
  have hlt := Cq.own_in ho (b := g) rfl
  refine (Cq.add_any B (B + 1) 1 w (.slice (some ⟨g, 0, none⟩) 1 c) la ln lc xs _ hb (by simp [Cq.bag0]) ho (by decide) (by omega) (by simp [Value.ownBlock]; omega) (by omega)).mono ?_
  rintro e w' ⟨he, g2, c2, h1, h2, h3, h4⟩
  exact ⟨he, g2, c2, h1, h2, h3.imp (fun h => by simpa [Value.ownBlock] using h) id, h4⟩
theorem below_tc {w a b : World} {H B : Nat} {row : Option Nat} (h : Below H w a) (t : Cq.Two a b B row) (hB : H ≤ B) (hr : ∀ r, row = some r → H ≤ r) (hH : H ≤ a.heap.size) : Below H w b :=
  ⟨t.os.trans h.os, t.tape.trans h.tape, t.output.trans h.output, Nat.le_trans h.size t.size, fun k hk => (t.block k (by omega) (by omega) (fun e => by have := hr k e.symm; omega)).trans (h.block k hk)⟩
end Go.Proofs.YtaaokecdmbmgbaaGreatDoor
