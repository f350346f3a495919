/- Numbers, places, rules and sides as texts. -/
import Derived.Test.YteaolcfpdhlohaaDoorLbT
import Derived.Test.YteaolcfpdhlohaaDoorShelf
import Derived.Lib.AppendIntMem
import Derived.Lib.ItoaLen
import Derived.Lib.LaidTab
import Derived.Deep.RegionHeld3
import Derived.Deep.DrawnRows
namespace Go.Proofs.YteaolcfpdhlohaaDoor
open Go.RowKit
set_option maxRecDepth 100000
set_option linter.unusedSimpArgs false
attribute [local go_sem ↓] Go.wp_at_zero Go.wp_at_succ

/-- The table of powers lies as the program's text lays it. -/
def Tab (w : World) : Prop := Lib.TabIs Tryd.prog w "internal/strconv.uint64pow10" .u64 Lib.pow10Tab
theorem Tab.below {w w' : World} (h : Tab w) (hB : Below w.heap.size w w') : Tab w' := Lib.tabBelow_of_tabIs h w' hB

theorem itoa_any (n : Int) (h0 : -9223372036854775808 ≤ n) (h1 : n ≤ 9223372036854775807) (w : World) (hT : Tab w) :
    Calls Tryd.prog 35 #[.int .i64 n] w fun e w' => e = .returned (.string (S (Lib.itoa n))) ∧ Below w.heap.size w w' :=
  (Tryd.strconv_Itoa n h0 h1 w hT).mono fun e w' ⟨he, k, os, hw⟩ => ⟨he, by rw [hw]; exact Lib.below_grow _ _ (Nat.le_refl _) _ _⟩
theorem itoa_len (n : Int) (h0 : -9223372036854775808 ≤ n) (h1 : n ≤ 9223372036854775807) : (S (Lib.itoa n)).size ≤ 21 := by
  rw [S_size]; have := Lib.itoa_length_le n h0 h1; omega

theorem S_toList (l : List UInt8) : (S l).toList = l := by rw [ByteArray.toList_eq]; rfl
theorem S_append (a b : List UInt8) : S a ++ S b = S (a ++ b) := by apply ByteArray.ext; simp [S]

set_option maxHeartbeats 4000000 in
theorem placeText_any (ln co : Int) (a0 : -9223372036854775808 ≤ ln) (a1 : ln ≤ 9223372036854775807) (b0 : -9223372036854775808 ≤ co) (b1 : co ≤ 9223372036854775807) (w : World) (hT : Tab w) :
    Calls Tryd.prog 31 #[.agg #[.int .i64 ln, .int .i64 co]] w fun e w' => e = .returned (.string (S (Lib.itoa ln) ++ ⟨#[58]⟩ ++ S (Lib.itoa co))) ∧ Below w.heap.size w w' := by
  have hB0 : Below w.heap.size w (w.alloc (.cells #[.int .i64 ln, .int .i64 co] 29)) := (Below.refl _ _).alloc (Nat.le_refl _) _
  have hT0 := hT.below hB0
  have hbc := (block_cells (heap_alloc_new w (.cells #[.int .i64 ln, .int .i64 co] 29))).1
  have c0 := hbc 0
  have c1 := hbc 1
  have hlt : w.heap.size < (w.alloc (.cells #[.int .i64 ln, .int .i64 co] 29)).heap.size := by simp
  have z1 := itoa_len ln a0 a1
  have z2 := itoa_len co b0 b1
  have j1 := itoa_any ln a0 a1
  have j2 := itoa_any co b0 b1
  generalize S (Lib.itoa ln) = s1 at *
  generalize S (Lib.itoa co) = s2 at *
  simp only [List.getElem?_toArray, List.getElem?_cons_zero, List.getElem?_cons_succ] at c0 c1
  go_enter Tryd.func31, Tryd.ntmps31
  go_upto_region 1 with fail
  generalize w.alloc _ = W0 at *
  have HS : ∀ W, Below W0.heap.size W0 W → W.cell? ⟨w.heap.size, 0, none⟩ = some (.int .i64 ln) ∧ W.cell? ⟨w.heap.size, 1, none⟩ = some (.int .i64 co) := fun W hB =>
    ⟨(hB.cell (p := ⟨w.heap.size, 0, none⟩) hlt).trans c0, (hB.cell (p := ⟨w.heap.size, 1, none⟩) hlt).trans c1⟩
  have hI1 : ∀ W, Below W0.heap.size W0 W → Calls Tryd.prog 35 #[.int .i64 ln] W fun e w' => e = .returned (.string s1) ∧ Below W0.heap.size W0 w' := fun W hB => (j1 W (hT0.below hB)).mono fun e w' ⟨he, hB'⟩ => ⟨he, bt hB hB'⟩
  have hI2 : ∀ W, Below W0.heap.size W0 W → Calls Tryd.prog 35 #[.int .i64 co] W fun e w' => e = .returned (.string s2) ∧ Below W0.heap.size W0 w' := fun W hB => (j2 W (hT0.below hB)).mono fun e w' ⟨he, hB'⟩ => ⟨he, bt hB hB'⟩
  have g1 : ¬ 9223372036854775807 < s1.size + 1 := by omega
  have g2 : ¬ 9223372036854775807 < s1.size + 1 + s2.size := by omega
  have HB : Aside (Below w.heap.size w W0) := hB0
  clear hbc c0 c1 hT hT0 j1 j2 hB0
  go_region_held3 (fun W => W.cell? ⟨w.heap.size, 0, none⟩ = some (.int .i64 ln) ∧ W.cell? ⟨w.heap.size, 1, none⟩ = some (.int .i64 co)) (first | exact HS _ (by first | assumption | exact below_drew (Below.refl _ _))) (first | (go_at_call 35; first | (refine (hI1 _ (by first | assumption | exact below_drew (Below.refl _ _))).mono ?_; rintro e w1 ⟨rfl, hB1⟩) | (refine (hI2 _ (by first | assumption | exact below_drew (Below.refl _ _))).mono ?_; rintro e w2 ⟨rfl, hB2⟩)))
  all_goals
    go_wp2_with fail
    go_ret
    exact ⟨rfl, bt HB.out (by assumption)⟩

namespace Lb
def ruleT (n : Int) : List UInt8 := if word n = [] then Lib.itoa n else word n
def sideT (b : Int) : List UInt8 := if 0 < b then [105, 110, 115, 105, 100, 101] else [99, 111, 110, 116, 101, 120, 116]
theorem word_len (n : Int) : (word n).length ≤ 9 := by
  unfold word
  split
  · simp
  · rw [List.getD_eq_getElem?_getD]
    cases h : wordsL[n.toNat]? with
    | none => simp
    | some s =>
      have hm := List.mem_of_getElem? h
      have : ∀ s ∈ wordsL, s.length ≤ 9 := by decide
      exact this s hm
end Lb
theorem ruleT_len (n : Int) (h0 : -9223372036854775808 ≤ n) (h1 : n ≤ 9223372036854775807) : (S (Lb.ruleT n)).size ≤ 21 := by
  unfold Lb.ruleT
  split
  · exact itoa_len n h0 h1
  · rw [S_size]; have := Lb.word_len n; omega

set_option maxHeartbeats 1000000 in
theorem ruleText_any (n : Int) (h0 : -9223372036854775808 ≤ n) (h1 : n ≤ 9223372036854775807) (w : World) (hW : HasW w) (hT : Tab w) :
    Calls Tryd.prog 32 #[.int .i64 n] w fun e w' => e = .returned (.string (S (Lb.ruleT n))) ∧ Below w.heap.size w w' := by
  have hr := rule_any n w hW
  have hi := itoa_any n h0 h1 w hT
  by_cases he : Lb.word n = []
  · have HR : Aside (Lb.ruleT n = Lib.itoa n) := by show _ = _; unfold Lb.ruleT; rw [if_pos he]
    rw [he] at hr
    rw [show S [] = ⟨#[]⟩ from rfl] at hr
    clear he hT hW
    go_enter Tryd.func32, Tryd.ntmps32
    go_wp2_with (first | (go_at_call 19; refine hr.mono ?_; rintro e w' ⟨rfl, hw'⟩; replace hw' := hw'.symm; subst hw') | (go_at_call 35; refine hi.mono ?_; rintro e w1 ⟨rfl, hB1⟩))
    go_ret
    exact ⟨ret_str (by rw [HR.out]), hB1⟩
  · have HR : Aside (Lb.ruleT n = Lb.word n) := by show _ = _; unfold Lb.ruleT; rw [if_neg he]
    have hne : (S (Lb.word n)).toList.isEmpty = false := by
      rw [S_toList]
      cases h : Lb.word n with
      | nil => exact absurd h he
      | cons a r => rfl
    obtain ⟨s, hs⟩ : ∃ s, s = S (Lb.word n) := ⟨_, rfl⟩
    rw [← hs] at hr hne
    have HSW : Aside (S (Lb.word n) = s) := hs.symm
    clear he hT hW hs
    go_enter Tryd.func32, Tryd.ntmps32
    go_wp2_with (first | (go_at_call 19; refine hr.mono ?_; rintro e w' ⟨rfl, hw'⟩; replace hw' := hw'.symm; subst hw'))
    go_ret
    exact ⟨ret_str (by rw [HR.out]; exact HSW.out.symm), Below.refl _ _⟩

set_option maxHeartbeats 1000000 in
theorem sideText_any (b : Int) (h : -9223372036854775808 ≤ b) (h' : b ≤ 9223372036854775807) (w : World) :
    Calls Tryd.prog 33 #[.int .i64 b] w fun e w' => e = .returned (.string (S (Lb.sideT b))) ∧ w' = w := by
  have hs := side_any b h h'
  generalize Lb.lab b = n at *
  by_cases hp : 0 < b
  · have hi : Lb.ins b = true := by unfold Lb.ins; simpa using hp
    rw [hi] at hs
    go_enter Tryd.func33, Tryd.ntmps33
    go_wp2_with (go_at_call 9; refine (hs _).mono ?_; rintro e w' ⟨rfl, hw'⟩; replace hw' := hw'.symm; subst hw')
    go_ret
    exact ⟨ret_str (by unfold Lb.sideT; rw [if_pos hp]; rfl), rfl⟩
  · have hi : Lb.ins b = false := by unfold Lb.ins; simpa using hp
    rw [hi] at hs
    go_enter Tryd.func33, Tryd.ntmps33
    go_wp2_with (go_at_call 9; refine (hs _).mono ?_; rintro e w' ⟨rfl, hw'⟩; replace hw' := hw'.symm; subst hw')
    go_ret
    exact ⟨ret_str (by unfold Lb.sideT; rw [if_neg (by omega)]; rfl), rfl⟩
end Go.Proofs.YteaolcfpdhlohaaDoor
