/- The rules' words, the program's and the document's. -/
import Derived.Test.YteaolcfpdhlohaaDoorLbA
namespace Go.Proofs.YteaolcfpdhlohaaDoor
open Go.RowKit
set_option maxRecDepth 100000
set_option linter.unusedSimpArgs false

namespace Lb
def wordsL : List (List UInt8) := [[], [98, 111, 100, 121], [108, 101, 116], [99, 97, 108, 108, 101, 100], [97, 114, 103, 117, 109, 101, 110, 116], [99, 111, 110, 100, 105, 116, 105, 111, 110], [116, 104, 101, 110], [101, 108, 115, 101], [105, 110, 116], [116, 101, 120, 116], [112, 97, 105, 114], [108, 105, 115, 116], [98, 111, 120], [101, 108, 101, 109, 101, 110, 116], [102, 105, 114, 115, 116], [115, 101, 116], [97, 115], [100, 101, 102], [105, 109, 112, 111, 114, 116]]
/-- The word of a rule. -/
def word (n : Int) : List UInt8 := if n < 0 ∨ 19 ≤ n then [] else wordsL.getD n.toNat []
end Lb
/-- The table of words lies as the program's text lays it. -/
def HasW (w : World) : Prop := ∀ (k : Nat) s, Lb.wordsL[k]? = some s → w.cell? ⟨0, k, none⟩ = some (.string (S s))
theorem HasW.below {w w' : World} (h : HasW w) (hB : Below w.heap.size w w') : HasW w' := fun k s hs =>
  (hB.cell (p := ⟨0, k, none⟩) (World.block_lt_of_cell? _ _ (h k s hs))).trans (h k s hs)

set_option maxHeartbeats 1000000 in
theorem rule_any (n : Int) (w : World) (hW : HasW w) :
    Calls Tryd.prog 19 #[.int .i64 n] w fun e w' => e = .returned (.string (S (Lb.word n))) ∧ w' = w := by
  by_cases h0 : n < 0
  · go_enter Tryd.func19, Tryd.ntmps19
    go_wp2_with fail
    go_ret
    exact ⟨ret_str (by unfold Lb.word; rw [if_pos (.inl h0)]; rfl), rfl⟩
  · by_cases h1 : 19 ≤ n
    · go_enter Tryd.func19, Tryd.ntmps19
      go_wp2_with fail
      go_ret
      exact ⟨ret_str (by unfold Lb.word; rw [if_pos (.inr h1)]; rfl), rfl⟩
    · obtain ⟨k, rfl⟩ : ∃ k : Nat, n = (k : Int) := ⟨n.toNat, by omega⟩
      have hk : k < Lb.wordsL.length := by show k < 19; omega
      have hc := hW k _ (List.getElem?_eq_getElem hk)
      have HS : Aside (Lb.word (k : Int) = Lb.wordsL[k]) := by
        show _ = _
        unfold Lb.word
        rw [if_neg (by omega), Int.toNat_natCast, List.getD_eq_getElem?_getD, List.getElem?_eq_getElem hk]; rfl
      have h2 : (0 : Int) ≤ (k : Int) := by omega
      have h3 : (k : Int) < 19 := by omega
      generalize Lb.wordsL[k] = s at *
      clear hW hk
      go_enter Tryd.func19, Tryd.ntmps19
      go_wp2_with fail
      go_ret
      exact ⟨ret_str (by rw [HS.out]), rfl⟩

set_option maxHeartbeats 4000000 in
theorem refRule_any (n : Int) (w : World) :
    Calls Tryd.prog 20 #[.int .i64 n] w fun e w' => e = .returned (.string (S (Lb.word n))) ∧ Below w.heap.size w w' := by
  by_cases h0 : n < 1
  · go_enter Tryd.func20, Tryd.ntmps20
    go_wp2_with fail
    go_ret
    refine ⟨ret_str ?_, (Below.refl _ _).alloc (Nat.le_refl _) _⟩
    unfold Lb.word
    by_cases h : n < 0
    · rw [if_pos (.inl h)]; rfl
    · obtain rfl : n = 0 := by omega
      rfl
  · by_cases h1 : 18 < n
    · go_enter Tryd.func20, Tryd.ntmps20
      go_wp2_with fail
      go_ret
      exact ⟨ret_str (by unfold Lb.word; rw [if_pos (.inr (by omega))]; rfl), (Below.refl _ _).alloc (Nat.le_refl _) _⟩
    · obtain rfl | rfl | rfl | rfl | rfl | rfl | rfl | rfl | rfl | rfl | rfl | rfl | rfl | rfl | rfl | rfl | rfl | rfl : n = 1 ∨ n = 2 ∨ n = 3 ∨ n = 4 ∨ n = 5 ∨ n = 6 ∨ n = 7 ∨ n = 8 ∨ n = 9 ∨ n = 10 ∨ n = 11 ∨ n = 12 ∨ n = 13 ∨ n = 14 ∨ n = 15 ∨ n = 16 ∨ n = 17 ∨ n = 18 := by omega
      all_goals
        clear h0 h1
        go_enter Tryd.func20, Tryd.ntmps20
        go_wp2_with fail
        go_ret
        exact ⟨rfl, (Below.refl _ _).alloc (Nat.le_refl _) _⟩
end Go.Proofs.YteaolcfpdhlohaaDoor
