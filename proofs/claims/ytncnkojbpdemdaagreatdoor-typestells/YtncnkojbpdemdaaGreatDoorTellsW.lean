/- The statement TypesTells, walked, from what apartTexts answers. -/
import Derived.Test.YtncnkojbpdemdaaGreatDoorReady
import Derived.Test.YtncnkojbpdemdaaGreatDoorRefWrd
import Derived.Test.YtncnkojbpdemdaaGreatDoorRefGr
import Derived.Test.YtncnkojbpdemdaaGreatDoorLives
namespace Go.Proofs.YtncnkojbpdemdaaGreatDoor
open Go.RowKit

theorem below_two {w a b : World} {H B : Nat} {row : Option Nat} (h : Below H w a) (t : Two a b B row) (hB : H ≤ B) (hr : ∀ r, row = some r → H ≤ r) (hH : H ≤ a.heap.size) : Below H w b :=
  ⟨t.os.trans h.os, t.tape.trans h.tape, t.output.trans h.output, Nat.le_trans h.size t.size, fun k hk => (t.block k (by omega) (by omega) (fun e => by have := hr k e.symm; omega)).trans (h.block k hk)⟩

/-- The two lists that are asked about, laid into a new bag. -/
theorem bag_add1 (w : World) (la : Option Addr) (ln lc : Nat) :
    Calls Tryz.prog 20 #[.pointer (some ⟨w.heap.size, 0, none⟩), .slice la ln lc] (w.alloc (.cells bag0 55)) fun e w' => e = .returned (.tuple #[]) ∧ ∃ g c, w'.heap[w.heap.size]? = some (.cells (bag0.setIfInBounds 4 (.slice (some ⟨g, 0, none⟩) 1 c)) 55 (0, 0)) ∧ w'.ownsRow (w.heap.size + 1) 26 1 (.slice (some ⟨g, 0, none⟩) 1 c) 1 [.slice la ln lc] ∧ (w.alloc (.cells bag0 55)).heap.size ≤ g ∧ Two (w.alloc (.cells bag0 55)) w' w.heap.size none := by
  refine (addTexts_any w.heap.size (w.heap.size + 1) 0 (w.alloc (.cells bag0 55)) (.slice none 0 0) la ln lc [] bag0 (heap_alloc_new _ _) rfl (own_nil _ _ _ _) (by decide) (by simp) (by simp [Value.ownBlock]) (by omega)).mono ?_
  rintro e w' ⟨he, g, c, h1, h2, h3, h4⟩
  refine ⟨he, g, c, h1, h2, ?_, h4⟩
  rcases h3 with h3 | h3
  · simp [Value.ownBlock] at h3
  · exact h3
theorem bag_add2 (B : Nat) (w : World) (g c : Nat) (xs : List Value) (la : Option Addr) (ln lc : Nat) (hb : w.heap[B]? = some (.cells (bag0.setIfInBounds 4 (.slice (some ⟨g, 0, none⟩) 1 c)) 55 (0, 0))) (ho : w.ownsRow (B + 1) 26 1 (.slice (some ⟨g, 0, none⟩) 1 c) 1 xs) :
    Calls Tryz.prog 20 #[.pointer (some ⟨B, 0, none⟩), .slice la ln lc] w fun e w' => e = .returned (.tuple #[]) ∧ ∃ g2 c2, w'.heap[B]? = some (.cells ((bag0.setIfInBounds 4 (.slice (some ⟨g, 0, none⟩) 1 c)).setIfInBounds 4 (.slice (some ⟨g2, 0, none⟩) 2 c2)) 55 (0, 0)) ∧ w'.ownsRow (B + 1) 26 1 (.slice (some ⟨g2, 0, none⟩) 2 c2) 2 (xs ++ [.slice la ln lc]) ∧ Two w w' B (some g) := by
  have hlt := own_lt ho (b := g) rfl
  refine (addTexts_any B (B + 1) 1 w (.slice (some ⟨g, 0, none⟩) 1 c) la ln lc xs _ hb (by simp [bag0]) ho (by decide) (by omega) (by simp [Value.ownBlock]; omega) (by omega)).mono ?_
  rintro e w' ⟨he, g2, c2, h1, h2, h3, h4⟩
  exact ⟨he, g2, c2, h1, h2, h4⟩

set_option maxRecDepth 100000 in
set_option maxHeartbeats 4000000 in
theorem tells_no (hA : ApartOk) (s : ByteArray) (hc : (Tp.chk s.data.toList).1 ≠ 0) (hs : s.size ≤ 140737488355328) (w : World) (ht : Tab w) :
    Calls Tryz.prog 3 #[.string s] w fun e w' => e = .returned (.bool true) ∧ Below w.heap.size w w' := by
  by_cases hL : 2147483647 < s.size
  · have hL' : decide ((2147483647 : Int) < (s.size : Int)) = true := by simp; omega
    go_enter Tryz.func3, Tryz.ntmps3
    go_wp2_with (go_at_call 4; refine (long_any _ _).mono ?_; rintro e w' ⟨rfl, hw'⟩; replace hw' := hw'.symm; subst hw')
    go_ret
    exact ⟨rfl, Below.refl _ _⟩
  · have hL' : decide ((2147483647 : Int) < (s.size : Int)) = false := by simp; omega
    have hPn := parts_no s hc
    have hRn := rparts_no s hc
    have hWn := words_no s hc
    have hVn := rWords_no s hc
    have hHn := head_no s hc
    have hJn := rhead_no s hc
    have hGn := ground_no s hc
    have hKn := rground_no s hc
    have hSn := static_any s
    have hTn := rstatic_any s
    have hIn := height_no s hc
    have hOn := rheight_no s hc
    have hCn := check_any s
    have hDn := rcheck_any s
    clear hc
    generalize (Tp.chk s.data.toList).1 = k1 at *
    generalize (Tp.chk s.data.toList).2 = k2 at *
    generalize statB s.data.toList = sb at *
    have hE := fun w => eqTexts_any (.slice none 0 0) (.slice none 0 0) [] w (.inl ⟨rfl, none, 0, rfl⟩) (.inl ⟨rfl, none, 0, rfl⟩) (by simp)
    go_enter Tryz.func3, Tryz.ntmps3
    go_wp2_with (first
      | (go_at_call 4; refine (long_any _ _).mono ?_; rintro e w' ⟨rfl, hw'⟩; replace hw' := hw'.symm; subst hw')
      | (go_at_call 5; refine (hCn _).mono ?_; rintro e w' ⟨rfl, hw'⟩; replace hw' := hw'.symm; subst hw')
      | (go_at_call 6; refine (hDn _).mono ?_; rintro e w' ⟨rfl, hw'⟩; replace hw' := hw'.symm; subst hw')
      | (go_at_call 7; refine (hPn _).mono ?_; rintro e w' ⟨rfl, hw'⟩; replace hw' := hw'.symm; subst hw')
      | (go_at_call 8; refine (hRn _).mono ?_; rintro e w' ⟨rfl, hw'⟩; replace hw' := hw'.symm; subst hw')
      | (go_at_call 9; refine (hWn _).mono ?_; rintro e w' ⟨rfl, hw'⟩; replace hw' := hw'.symm; subst hw')
      | (go_at_call 10; refine (hVn _).mono ?_; rintro e w' ⟨rfl, hw'⟩; replace hw' := hw'.symm; subst hw'))
    refine (hE _).mono ?_
    rintro e w1 ⟨rfl, hB1⟩
    go_wp2_with fail
    refine (hE _).mono ?_
    rintro e w2 ⟨rfl, hB2⟩
    have hB02 := hB1.trans (hB2.mono hB1.size)
    go_wp2_with (first
      | (go_at_call 12; refine (hHn _).mono ?_; rintro e w' ⟨rfl, hw'⟩; replace hw' := hw'.symm; subst hw')
      | (go_at_call 13; refine (hJn _).mono ?_; rintro e w' ⟨rfl, hw'⟩; replace hw' := hw'.symm; subst hw')
      | (go_at_call 14; refine (hGn _).mono ?_; rintro e w' ⟨rfl, hw'⟩; replace hw' := hw'.symm; subst hw')
      | (go_at_call 15; refine (hKn _).mono ?_; rintro e w' ⟨rfl, hw'⟩; replace hw' := hw'.symm; subst hw')
      | (go_at_call 16; refine (hSn _).mono ?_; rintro e w' ⟨rfl, hw'⟩; replace hw' := hw'.symm; subst hw')
      | (go_at_call 17; refine (hTn _).mono ?_; rintro e w' ⟨rfl, hw'⟩; replace hw' := hw'.symm; subst hw')
      | (go_at_call 18; refine (hIn _).mono ?_; rintro e w' ⟨rfl, hw'⟩; replace hw' := hw'.symm; subst hw')
      | (go_at_call 19; refine (hOn _).mono ?_; rintro e w' ⟨rfl, hw'⟩; replace hw' := hw'.symm; subst hw'))
    refine (bag_add1 w2 none 0 0).mono ?_
    rintro e w9 ⟨rfl, g1, c1, hb9, ho9, hg9, t9⟩
    go_wp2_with fail
    refine (bag_add2 w2.heap.size w9 g1 c1 _ none 0 0 hb9 ho9).mono ?_
    rintro e w10 ⟨rfl, g2, c2, hb10, ho10, t10⟩
    obtain ⟨hLn, hBr, hc2⟩ := ready (H := w.heap.size) (a := .slice none 0 0) (b := .slice none 0 0) (own_nil w2 _ _ _) (own_nil w2 _ _ _) (by decide) (by decide) (by simp [Value.ownBlock]) ⟨none, 0, rfl⟩ ⟨none, 0, rfl⟩ hg9 t9 hb10 ho10 t10
    have hs2 := hB02.size
    have hlt9 := own_lt ho9 (b := g1) rfl
    have hs9 := t9.size
    have hB8 : Below w.heap.size w (w2.alloc (.cells bag0 55)) := hB02.alloc hs2 _
    have hB9 := below_two hB8 t9 hs2 (by simp) (by simp; omega)
    have hB10 := below_two hB9 t10 hs2 (fun r hr => by cases hr; omega) (Nat.le_trans hB8.size hs9)
    have hAp := apart_of w2.heap.size (fun w' => Kp w10 w' w.heap.size w2.heap.size) w10 hBr ((hA w10 w.heap.size w2.heap.size g2 2 c2 _ hLn hc2 hB10.size (fun w' h => ht.on (hB10.trans h))).mono (fun e w' h => ⟨h.1, fun k hk h4 => (World.cell?_of_block h.2.bag).trans (hBr k hk h4), h.2⟩))
    go_wp2_with fail
    refine hAp.mono ?_
    rintro e w11 ⟨rfl, hK⟩
    go_wp2_with (go_at_call 22; refine (lives_any _).mono ?_; rintro e w12 ⟨rfl, hB12⟩)
    go_ret
    have hB11 := hB10.trans hK.below
    exact ⟨rfl, hB11.trans (hB12.mono hB11.size)⟩

end Go.Proofs.YtncnkojbpdemdaaGreatDoor
