/- What the program's Consistent and Precise tell. -/
import Derived.Test.YtkmoeflodafoeaaGreatDoorUal
namespace Go.Proofs.YtkmoeflodafoeaaGreatDoor.T3
set_option maxRecDepth 100000
open Go.RowKit

theorem texts2 (w : World) (a b : List UInt8) : IsTexts (w.alloc (.cells #[.string (S a), .string (S b)] 9)) (.slice (some ⟨w.heap.size, 0, none⟩) 2 2) [a, b] :=
  IsTexts.own (own_lit w (tcells [a, b]) 9 (by simp [tcells, maxLen]))
theorem texts1 (w : World) (a : List UInt8) : IsTexts (w.alloc (.cells #[.string (S a)] 9)) (.slice (some ⟨w.heap.size, 0, none⟩) 1 1) [a] :=
  IsTexts.own (own_lit w (tcells [a]) 9 (by simp [tcells, maxLen]))
theorem texts1e {w W : World} {a : List UInt8} {n : Nat} (hW : W = w.alloc (.cells #[.string (S a)] 9)) (hn : n = w.heap.size) : IsTexts W (.slice (some ⟨n, 0, none⟩) 1 1) [a] := by
  subst hW hn; exact texts1 w a
theorem cell_new {w W : World} {v : Value} {t : TypeId} {n : Nat} (hW : W = w.alloc (.cells #[v] t)) (hn : n = w.heap.size) : W.cell? ⟨n, 0, none⟩ = some v := by
  subst hW hn
  rw [(block_cells (heap_alloc_new w (.cells #[v] t))).1 0]
  rfl
theorem cell_old {w W : World} {o : Obj} {b k : Nat} {v : Value} (hW : W = w.alloc o) (hb : b < w.heap.size) (h : w.cell? ⟨b, k, none⟩ = some v) : W.cell? ⟨b, k, none⟩ = some v := by
  subst hW
  exact (World.cell?_of_block (Below.heap_alloc _ _ _ hb)).trans h
theorem below_alloc (w : World) (o : Obj) : Below w.heap.size w (w.alloc o) := (Below.refl _ _).alloc (Nat.le_refl _) _
theorem rcheck2 (w : World) (l m : List UInt8) (W : World) (hW : W = w.alloc (.cells #[.string (S l), .string (S m)] 9)) (n : Nat) (hn : n = w.heap.size) : Calls Tryz.prog 162 #[.slice (some ⟨n, 0, none⟩) 2 2] W fun e w' => e = .returned (.int .i64 (Tp.firstBad [l, m])) ∧ w' = W := by
  subst hW hn
  exact rcheck_any _ [l, m] _ (texts2 w l m) (by simp)
theorem bad2 {l m : List UInt8} (h : (Tp.chk l).1 ≠ 0 ∨ (Tp.chk m).1 ≠ 0) : Tp.firstBad [l, m] ≠ 0 := by
  unfold Tp.firstBad Tp.firstBad
  rcases h with h | h
  · rw [if_neg h]; exact h
  · by_cases hl : (Tp.chk l).1 = 0
    · rw [if_pos hl, if_neg h]; exact h
    · rw [if_neg hl]; exact hl
theorem good2 {l m : List UInt8} (h : (Tp.chk l).1 = 0) (k : (Tp.chk m).1 = 0) : Tp.firstBad [l, m] = 0 := by
  simp [Tp.firstBad, h, k]

theorem store_func (a : Addr) (fn : Fn) (f c : Array Value) (w : World) : (store a (.func fn f c)).run Tryz.prog w = stored Tryz.prog w a (.func fn f c) .plain := run_store Tryz.prog w a _ _ rfl

set_option maxHeartbeats 2000000 in
theorem together_no (F : Nat) (l m : List UInt8) (h : (Tp.chk l).1 ≠ 0 ∨ (Tp.chk m).1 ≠ 0) (w : World) :
    Calls Tryz.prog 122 #[.string (S l), .string (S m), .func (.func F) #[] #[]] w fun e w' => e = .returned (.bool false) ∧ Below w.heap.size w w' := by
  have hb := bad2 h
  have hb' : ((Tp.firstBad [l, m] : Int) != 0) = true := by simpa using hb
  have hc := fun w => rcheck2 w l m
  generalize S l = s at *
  generalize S m = t at *
  go_enter Tryz.func122, Tryz.ntmps122
  go_wp2_with (go_at_call 162; refine (hc _ _ rfl _ (by simp)).mono ?_; rintro e w' ⟨rfl, rfl⟩)
  go_ret
  exact ⟨rfl, ((Below.refl _ _).alloc (Nat.le_refl _) _).alloc (by simp) _⟩

set_option maxHeartbeats 2000000 in
theorem together_yes (F : Nat) (st R : Tp.Ty → Tp.Ty → Bool) (hE : ∀ args w, (callFunc F args).run Tryz.prog w = .ok (.enter F args) w) (hF : Settles F st) (hR : ∀ a b, R a b = (st a b || (decide (Tp.hd a = Tp.hd b) && Tp.all2 R (Tp.kids a) (Tp.kids b)))) (a b : Tp.Ty) (ha : (Tp.enc a).length ≤ 64) (hb : (Tp.enc b).length ≤ 64) (w : World) :
    Calls Tryz.prog 122 #[.string (S (Tp.enc a)), .string (S (Tp.enc b)), .func (.func F) #[] #[]] w fun e w' => e = .returned (.bool (R a b)) ∧ Below w.heap.size w w' := by
  have hg : Tp.firstBad [Tp.enc a, Tp.enc b] = 0 := good2 (by rw [Tp.chk_enc a ha]) (by rw [Tp.chk_enc b hb])
  have hc := fun w => rcheck2 w (Tp.enc a) (Tp.enc b)
  rw [hg] at hc
  have hA := agree_any F st R hE hF hR 64 [a] [b]
  have ht1 := fun w W n => texts1e (w := w) (W := W) (a := Tp.enc a) (n := n)
  have ht2 := fun w W n => texts1e (w := w) (W := W) (a := Tp.enc b) (n := n)
  have hx : Tp.all2 R [a] [b] = R a b := by simp [Tp.all2]
  rw [hx] at hA
  clear hR hx
  have e45 := enters163
  have hsf := store_func
  generalize S (Tp.enc a) = s at *
  generalize S (Tp.enc b) = t at *
  go_enter Tryz.func122, Tryz.ntmps122
  go_wp2_with (first | (go_at_call 162; refine (hc _ _ rfl _ (by simp)).mono ?_; rintro e w' ⟨rfl, hw'⟩; replace hw' := hw'.symm; subst hw'))
  refine (hA _ _ _ _ _ rfl (by simp) (by simp; exact ha) (by simp; exact hb) ?_ ?_ (by simp; try omega) (by simp; try omega) ?_ ?_).mono ?_
  · exact (ht1 _ _ _ rfl (by simp)).below (below_alloc _ _)
  · exact ht2 _ _ _ rfl (by simp)
  · exact cell_old rfl (by simp; omega) (cell_old rfl (by simp; omega) (cell_old rfl (by simp; omega) (cell_old rfl (by simp) (cell_new rfl rfl))))
  · exact cell_old rfl (by simp) (cell_old rfl (by simp) (cell_new rfl (by simp)))
  rintro e w' ⟨rfl, hB⟩
  go_wp2_with fail
  go_ret
  refine ⟨rfl, Below.trans ?_ (hB.mono (by simp; omega))⟩
  exact (((((Below.refl _ _).alloc (Nat.le_refl _) _).alloc (by simp) _).alloc (by simp; omega) _).alloc (by simp; omega) _).alloc (by simp; omega) _

theorem enters123 : ∀ args w, (callFunc 123 args).run Tryz.prog w = .ok (.enter 123 args) w := enters_of Tryz.func123 (by kernel_rfl) rfl
namespace Tp
theorem cns_eq : ∀ a b : Ty, cns a b = ((isq a || isq b) || (decide (hd a = hd b) && all2 cns (kids a) (kids b))) := by
  intro a b
  cases a <;> cases b <;> simp [cns, isq, hd, kids, all2]
theorem prc_eq : ∀ a b : Ty, prc a b = (isq b || (decide (hd a = hd b) && all2 prc (kids a) (kids b))) := by
  intro a b
  cases a <;> cases b <;> simp [prc, isq, hd, kids, all2]
end Tp

set_option maxHeartbeats 1000000 in
theorem consistent_yes (a b : Tp.Ty) (ha : (Tp.enc a).length ≤ 64) (hb : (Tp.enc b).length ≤ 64) (w : World) :
    Calls Tryz.prog 59 #[.string (S (Tp.enc a)), .string (S (Tp.enc b))] w fun e w' => e = .returned (.bool (Tp.cns a b)) ∧ Below w.heap.size w w' := by
  have h := together_yes 123 _ Tp.cns enters123 cons1_any Tp.cns_eq a b ha hb
  generalize S (Tp.enc a) = s at *
  generalize S (Tp.enc b) = t at *
  go_enter Tryz.func59, Tryz.ntmps59
  go_wp2_with (go_at_call 122; refine (h _).mono ?_; rintro e w' ⟨rfl, hB⟩)
  go_ret
  exact ⟨rfl, hB⟩
set_option maxHeartbeats 1000000 in
theorem consistent_no (l m : List UInt8) (h : (Tp.chk l).1 ≠ 0 ∨ (Tp.chk m).1 ≠ 0) (w : World) :
    Calls Tryz.prog 59 #[.string (S l), .string (S m)] w fun e w' => e = .returned (.bool false) ∧ Below w.heap.size w w' := by
  have h := together_no 123 l m h
  generalize S l = s at *
  generalize S m = t at *
  go_enter Tryz.func59, Tryz.ntmps59
  go_wp2_with (go_at_call 122; refine (h _).mono ?_; rintro e w' ⟨rfl, hB⟩)
  go_ret
  exact ⟨rfl, hB⟩
end Go.Proofs.YtkmoeflodafoeaaGreatDoor.T3
