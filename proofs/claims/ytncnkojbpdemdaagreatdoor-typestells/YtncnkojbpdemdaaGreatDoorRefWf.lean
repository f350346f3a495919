/- What the document's words answers. -/
import Derived.Test.YtncnkojbpdemdaaGreatDoorRefWd
namespace Go.Proofs.YtncnkojbpdemdaaGreatDoor
open Go.RowKit

set_option maxRecDepth 100000 in
set_option maxHeartbeats 1000000 in
theorem words_i : WdC .ti := by
  intro w
  go_enter Tryz.func31, Tryz.ntmps31
  go_wp2_with (go_at_call 8; refine (rparts_yes .ti (by decide) _).mono ?_; rintro e w1 ⟨v, rfl, hown, hB1⟩; obtain ⟨va, vc, rfl⟩ := own_len hown)
  go_ret
  exact ⟨rfl, hB1⟩

set_option maxRecDepth 100000 in
set_option maxHeartbeats 1000000 in
theorem words_b : WdC .tb := by
  intro w
  go_enter Tryz.func31, Tryz.ntmps31
  go_wp2_with (go_at_call 8; refine (rparts_yes .tb (by decide) _).mono ?_; rintro e w1 ⟨v, rfl, hown, hB1⟩; obtain ⟨va, vc, rfl⟩ := own_len hown)
  go_ret
  exact ⟨rfl, hB1⟩

set_option maxRecDepth 100000 in
set_option maxHeartbeats 1000000 in
theorem words_t : WdC .tt := by
  intro w
  go_enter Tryz.func31, Tryz.ntmps31
  go_wp2_with (go_at_call 8; refine (rparts_yes .tt (by decide) _).mono ?_; rintro e w1 ⟨v, rfl, hown, hB1⟩; obtain ⟨va, vc, rfl⟩ := own_len hown)
  go_ret
  exact ⟨rfl, hB1⟩

set_option maxRecDepth 100000 in
set_option maxHeartbeats 1000000 in
theorem words_x (a : Tp.Ty) (hl : (Tp.enc (.tx a)).length ≤ 64) (h : WrC a) : WdC (.tx a) := by
  intro w
  have hP := rparts_yes (.tx a) hl
  obtain ⟨hp, hh⟩ := S_head (.tx a)
  have hh' : ((S (Tp.enc (.tx a)))[0]'hp).toNat = 120 := hh hp
  clear hh
  have hp' : (0 : Int) < ((S (Tp.enc (.tx a))).size : Int) := by omega
  have hwl := Tp.wd_len (.tx a)
  have hwe : Tp.wd (.tx a) = [98, 111, 120, 32] ++ Tp.par a (Tp.wd a) := rfl
  rw [hwe] at hwl
  simp only [List.length_append, List.length_cons, List.length_nil] at hwl
  unfold WrC at h
  rw [hwe]
  generalize Tp.par a (Tp.wd a) = pa at *
  have hz1 : (S pa).size ≤ 1000 := by rw [S_size]; omega
  have e1 : (⟨#[98, 111, 120, 32]⟩ : ByteArray) ++ S pa = S ([98, 111, 120, 32] ++ pa) := lit_add [98, 111, 120, 32] _ _ rfl
  clear hl hwl hwe
  have hT : ∀ W : World, ∀ v n, W.ownsRow w.heap.size 9 1 v n (tcells [Tp.enc a]) → n = 1 → IsTexts W v [Tp.enc a] := fun W v n h1 h2 => by subst h2; exact IsTexts.own h1
  replace hP : ∀ w : World, Calls Tryz.prog 8 #[.string (S (Tp.enc (.tx a)))] w fun e w' => ∃ v, e = .returned v ∧ w'.ownsRow w.heap.size 9 1 v 1 (tcells [Tp.enc a]) ∧ Below w.heap.size w w' := hP
  generalize S (Tp.enc (.tx a)) = s at *
  generalize hsa : S (Tp.enc a) = sa at *
  generalize S ([98, 111, 120, 32] ++ pa) = v1 at *
  generalize S pa = v at *
  go_enter Tryz.func31, Tryz.ntmps31
  go_wp2_with fail
  refine (hP _).mono ?_
  rintro e w1 ⟨v, rfl, hown, hB1⟩
  obtain ⟨va, vc, rfl⟩ := own_len hown
  obtain ⟨b, o, rfl, hn1, hb, hc0⟩ := one_cell (hT _ _ _ hown rfl)
  rw [hsa] at hc0
  clear hown hT hP
  go_wp2_with (go_at_call 58; refine (h _).mono ?_; rintro e w2 ⟨rfl, hB2⟩)
  go_ret
  exact ⟨rfl, hB1.trans (hB2.mono hB1.size)⟩

set_option maxRecDepth 100000 in
set_option maxHeartbeats 2000000 in
theorem words_f (a b : Tp.Ty) (hl : (Tp.enc (.tf a b)).length ≤ 64) (ha : WrC a) (hb : WdC b) : WdC (.tf a b) := by
  intro w
  have hP := rparts_yes (.tf a b) hl
  obtain ⟨hp, hh⟩ := S_head (.tf a b)
  have hh' : ((S (Tp.enc (.tf a b)))[0]'hp).toNat = 62 := hh hp
  clear hh
  have hp' : (0 : Int) < ((S (Tp.enc (.tf a b))).size : Int) := by omega
  have hwl := Tp.wd_len (.tf a b)
  have hwe : Tp.wd (.tf a b) = Tp.par a (Tp.wd a) ++ [32, 45, 62, 32] ++ Tp.wd b := by rw [List.append_assoc]; rfl
  rw [hwe] at hwl
  simp only [List.length_append, List.length_cons, List.length_nil] at hwl
  unfold WrC at ha
  unfold WdC at hb
  rw [hwe]
  generalize Tp.par a (Tp.wd a) = pa at *
  generalize Tp.wd b = pb at *
  have hz1 : (S pa).size ≤ 1000 := by rw [S_size]; omega
  have hz2 : (S pb).size ≤ 1000 := by rw [S_size]; omega
  have hz3 : (S (pa ++ [32, 45, 62, 32])).size ≤ 1000 := by rw [S_size]; simp; omega
  have e1 : S pa ++ (⟨#[32, 45, 62, 32]⟩ : ByteArray) = S (pa ++ [32, 45, 62, 32]) := add_lit _ [32, 45, 62, 32] _ rfl
  have e2 : S (pa ++ [32, 45, 62, 32]) ++ S pb = S (pa ++ [32, 45, 62, 32] ++ pb) := S_add _ _
  clear hl hwl hwe
  have hT : ∀ W : World, ∀ v n, W.ownsRow w.heap.size 9 1 v n (tcells [Tp.enc a, Tp.enc b]) → n = 2 → IsTexts W v [Tp.enc a, Tp.enc b] := fun W v n h1 h2 => by subst h2; exact IsTexts.own h1
  replace hP : ∀ w : World, Calls Tryz.prog 8 #[.string (S (Tp.enc (.tf a b)))] w fun e w' => ∃ v, e = .returned v ∧ w'.ownsRow w.heap.size 9 1 v 2 (tcells [Tp.enc a, Tp.enc b]) ∧ Below w.heap.size w w' := hP
  generalize S (Tp.enc (.tf a b)) = s at *
  generalize hsa : S (Tp.enc a) = sa at *
  generalize hsb : S (Tp.enc b) = sb at *
  generalize S (pa ++ [32, 45, 62, 32] ++ pb) = v3 at *
  generalize S (pa ++ [32, 45, 62, 32]) = v2 at *
  generalize S pa = va1 at *
  generalize S pb = vb1 at *
  go_enter Tryz.func31, Tryz.ntmps31
  go_wp2_with fail
  refine (hP _).mono ?_
  rintro e w1 ⟨v, rfl, hown, hB1⟩
  obtain ⟨va, vc, rfl⟩ := own_len hown
  obtain ⟨bk, o, rfl, hn1, hbk, hc0, hc1⟩ := two_cells (hT _ _ _ hown rfl)
  rw [hsa] at hc0
  rw [hsb] at hc1
  clear hown hT hP hn1
  go_wp2_with fail
  go_region_with (first | (go_at_call 58; refine (ha _).mono ?_; rintro e w2 ⟨rfl, hB2⟩; have hd0 := (hB2.cell (p := ⟨bk, o, none⟩) hbk).trans hc0; have hd1 := (hB2.cell (p := ⟨bk, o + 1, none⟩) hbk).trans hc1; have hs2 := hB2.size) | (go_at_call 31; refine (hb _).mono ?_; rintro e w3 ⟨rfl, hB3⟩; have hd2 := (hB3.cell (p := ⟨bk, o, none⟩) (by first | exact hbk | exact Nat.lt_of_lt_of_le hbk hs2)).trans (by first | exact hd0 | exact hc0)))
  all_goals
    go_wp2_with fail
    go_ret
    exact ⟨rfl, hB1.drew.trans ((hB2.trans (hB3.mono hB2.size)).mono hB1.size)⟩

end Go.Proofs.YtncnkojbpdemdaaGreatDoor
