/- What the document's words answers of a pair. -/
import Derived.Test.YtncnkojbpdemdaaGreatDoorRefWd
namespace Go.Proofs.YtncnkojbpdemdaaGreatDoor
open Go.RowKit

set_option maxRecDepth 100000 in
set_option maxHeartbeats 40000000 in
theorem words_p (a b : Tp.Ty) (hl : (Tp.enc (.tp a b)).length ≤ 64) (ha : WdC a) (hb : WdC b) : WdC (.tp a b) := by
  intro w
  have hP := rparts_yes (.tp a b) hl
  obtain ⟨hp, hh⟩ := S_head (.tp a b)
  have hh' : ((S (Tp.enc (.tp a b)))[0]'hp).toNat = 44 := hh hp
  clear hh
  have hp' : (0 : Int) < ((S (Tp.enc (.tp a b))).size : Int) := by omega
  have hwl := Tp.wd_len (.tp a b)
  have hwe : Tp.wd (.tp a b) = [40] ++ Tp.wd a ++ [44, 32] ++ Tp.wd b ++ [41] := by simp [Tp.wd]
  rw [hwe] at hwl
  simp only [List.length_append, List.length_cons, List.length_nil] at hwl
  unfold WdC at ha hb
  rw [hwe]
  generalize Tp.wd a = pa at *
  generalize Tp.wd b = pb at *
  have hz1 : (S pa).size ≤ 1000 := by rw [S_size]; omega
  have hz2 : (S pb).size ≤ 1000 := by rw [S_size]; omega
  have hz3 : (S ([40] ++ pa)).size ≤ 1000 := by rw [S_size]; simp; omega
  have hz4 : (S ([40] ++ pa ++ [44, 32])).size ≤ 1000 := by rw [S_size]; simp; omega
  have hz5 : (S ([40] ++ pa ++ [44, 32] ++ pb)).size ≤ 1000 := by rw [S_size]; simp; omega
  have e1 : (⟨#[40]⟩ : ByteArray) ++ S pa = S ([40] ++ pa) := lit_add [40] _ _ rfl
  have e2 : S ([40] ++ pa) ++ (⟨#[44, 32]⟩ : ByteArray) = S ([40] ++ pa ++ [44, 32]) := add_lit _ [44, 32] _ rfl
  have e3 : S ([40] ++ pa ++ [44, 32]) ++ S pb = S ([40] ++ pa ++ [44, 32] ++ pb) := S_add _ _
  have e4 : S ([40] ++ pa ++ [44, 32] ++ pb) ++ (⟨#[41]⟩ : ByteArray) = S ([40] ++ pa ++ [44, 32] ++ pb ++ [41]) := add_lit _ [41] _ rfl
  clear hl hwl hwe
  have hT : ∀ W : World, ∀ v n, W.ownsRow w.heap.size 9 1 v n (tcells [Tp.enc a, Tp.enc b]) → n = 2 → IsTexts W v [Tp.enc a, Tp.enc b] := fun W v n h1 h2 => by subst h2; exact IsTexts.own h1
  replace hP : ∀ w : World, Calls Tryz.prog 8 #[.string (S (Tp.enc (.tp a b)))] w fun e w' => ∃ v, e = .returned v ∧ w'.ownsRow w.heap.size 9 1 v 2 (tcells [Tp.enc a, Tp.enc b]) ∧ Below w.heap.size w w' := hP
  generalize S (Tp.enc (.tp a b)) = s at *
  generalize hsa : S (Tp.enc a) = sa at *
  generalize hsb : S (Tp.enc b) = sb at *
  generalize S ([40] ++ pa ++ [44, 32] ++ pb ++ [41]) = v5 at *
  generalize S ([40] ++ pa ++ [44, 32] ++ pb) = v4 at *
  generalize S ([40] ++ pa ++ [44, 32]) = v3 at *
  generalize S ([40] ++ pa) = v2 at *
  generalize S pa = va1 at *
  generalize S pb = vb1 at *
  have H : ∀ x y : ByteArray, (x = sa ∧ y = va1) ∨ (x = sb ∧ y = vb1) → ∀ w : World, Calls Tryz.prog 31 #[.string x] w fun e w' => e = .returned (.string y) ∧ Below w.heap.size w w' := by
    rintro x y (⟨rfl, rfl⟩ | ⟨rfl, rfl⟩)
    · exact ha
    · exact hb
  clear ha hb
  go_enter Tryz.func31, Tryz.ntmps31
  go_wp2_with fail
  refine (hP _).mono ?_
  rintro e w1 ⟨v, rfl, hown, hB1⟩
  obtain ⟨va, vc, rfl⟩ := own_len hown
  obtain ⟨bk, o, rfl, hn1, hbk, hc0, hc1⟩ := two_cells (hT _ _ _ hown rfl)
  rw [hsa] at hc0
  rw [hsb] at hc1
  clear hown hT hP hn1 hsa hsb
  go_wp2_with fail
  go_region_with (first | (go_at_call 31; refine (H _ _ (by exact .inl ⟨rfl, rfl⟩) _).mono ?_; rintro e w2 ⟨rfl, hB2⟩; have hd1 := (hB2.cell (p := ⟨bk, o + 1, none⟩) hbk).trans hc1) | (go_at_call 31; refine (H _ _ (by exact .inr ⟨rfl, rfl⟩) _).mono ?_; rintro e w3 ⟨rfl, hB3⟩))
  all_goals
    go_wp2_with fail
    go_ret
    exact ⟨rfl, hB1.drew.trans ((hB2.trans (hB3.mono hB2.size)).mono hB1.size)⟩

end Go.Proofs.YtncnkojbpdemdaaGreatDoor
