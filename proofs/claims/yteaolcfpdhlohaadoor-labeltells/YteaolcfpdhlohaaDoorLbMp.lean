/- Who is blamed, in words: the document's Text. -/
import Derived.Test.YteaolcfpdhlohaaDoorLbK
namespace Go.Proofs.YteaolcfpdhlohaaDoor
open Go.RowKit
set_option maxRecDepth 100000
set_option linter.unusedSimpArgs false
attribute [local go_sem ↓] Go.wp_at_zero Go.wp_at_succ

set_option maxHeartbeats 8000000 in
theorem refText_p (l : List Lb.Si) (hlen : l.length ≤ 2199023255552) (b : Int) (h : -9223372036854775808 ≤ b) (h' : b ≤ 9223372036854775807) (x : Lb.Si) (hs : Lb.site l b = some x)
    (hx : (x.m.size ≤ 1048576 ∧ x.e.size ≤ 1048576) ∧ (-9223372036854775808 ≤ x.ln ∧ x.ln ≤ 9223372036854775807) ∧ (-9223372036854775808 ≤ x.co ∧ x.co ≤ 9223372036854775807) ∧ (-9223372036854775808 ≤ x.ru ∧ x.ru ≤ 9223372036854775807))
    (he : ¬ Lb.word x.ru = []) (hr : ¬ x.ru = 18) (v : Value) (w : World) (hl : IsSites w v l) (hT : Tab w) :
    Calls Tryd.prog 16 #[v, .int .i64 b] w fun e w' => e = .returned (.tuple #[.string (S (Lb.textF x b)), .int .i64 0]) ∧ Below w.heap.size w w' := by
  have hof := refOf_some l hlen b h h' x hs v w hl
  have hnm := fun w hl => refNamed_some l hlen b h h' x hs v w hl
  obtain ⟨⟨hz1, hz2⟩, ⟨a0, a1⟩, ⟨b0, b1⟩, ⟨c0, c1⟩⟩ := hx
  have hru := refRule_any x.ru
  have hsd := refSide_any b h h'
  have hwl := Lb.who_len (b := b) ⟨hz1, hz2⟩
  have z1 := itoa_len x.ln a0 a1
  have z2 := itoa_len x.co b0 b1
  have z3 := ruleT_len x.ru c0 c1
  have j1 := itoa_any x.ln a0 a1
  have j2 := itoa_any x.co b0 b1
  have HE : Aside (S (Lb.textF x b) = Lb.who x b ++ S [32, 97, 116, 32] ++ S (Lib.itoa x.ln) ++ S [58] ++ S (Lib.itoa x.co) ++ S [32] ++ S (Lb.ruleT x.ru) ++ S [32] ++ S (Lb.sideT b)) := by
    show _ = _
    unfold Lb.textF Lb.textB
    rw [if_neg hr]
    apply ByteArray.ext
    simp [S]
  rw [HE.out]
  clear HE
  have hne : (S (Lb.word x.ru)).toList.isEmpty = false := by
    rw [S_toList]
    cases h : Lb.word x.ru with
    | nil => exact absurd h he
    | cons a r => rfl
  rw [show Lb.ruleT x.ru = Lb.word x.ru by unfold Lb.ruleT; rw [if_neg he]] at z3 ⊢
  generalize S (Lb.word x.ru) = s4 at *
  generalize S (Lib.itoa x.ln) = s1 at *
  generalize S (Lib.itoa x.co) = s2 at *
  have hrb : (x.ru == 18) = false := by simpa using hr
  generalize Lb.who x b = s0 at *
  clear hs he hr
  generalize Lb.lab b = n at *
  have g1 : ¬ 9223372036854775807 < s0.size + 4 := by omega
  have g2 : ¬ 9223372036854775807 < s0.size + 4 + s1.size := by omega
  have g3 : ¬ 9223372036854775807 < s0.size + 4 + s1.size + 1 := by omega
  have g4 : ¬ 9223372036854775807 < s0.size + 4 + s1.size + 1 + s2.size := by omega
  have g5 : ¬ 9223372036854775807 < s0.size + 4 + s1.size + 1 + s2.size + 1 := by omega
  have g6 : ¬ 9223372036854775807 < s0.size + 4 + s1.size + 1 + s2.size + 1 + s4.size := by omega
  have g7 : ¬ 9223372036854775807 < s0.size + 4 + s1.size + 1 + s2.size + 1 + s4.size + 1 := by omega
  by_cases hp : 0 < b
  all_goals
    first
      | rw [show Lb.ins b = true by unfold Lb.ins; simpa using hp] at hsd
      | rw [show Lb.ins b = false by unfold Lb.ins; simpa using hp] at hsd
    first
      | rw [show Lb.sideT b = [105, 110, 115, 105, 100, 101] by unfold Lb.sideT; rw [if_pos hp]]
      | rw [show Lb.sideT b = [99, 111, 110, 116, 101, 120, 116] by unfold Lb.sideT; rw [if_neg hp]]
    have g8 : ¬ 9223372036854775807 < s0.size + 4 + s1.size + 1 + s2.size + 1 + s4.size + 1 + 6 := by omega
    have g9 : ¬ 9223372036854775807 < s0.size + 4 + s1.size + 1 + s2.size + 1 + s4.size + 1 + 7 := by omega
    clear hp
    go_enter Tryd.func16, Tryd.ntmps16
    go_wp2_with fail
    go_at_call 12
    refine hof.mono ?_
    rintro e w1 ⟨rfl, hB1⟩
    have hbx := Box.new w1 x.m x.e x.ln x.co x.ru 31
    have hl1 := hl.below hB1
    have hT1 := hT.below hB1
    go_wp2_with fail
    go_at_call 14
    refine (hnm _ (hl1.below (by repeat (first | exact Below.refl _ _ | refine balloc ?_ _)))).mono ?_
    rintro e w2 ⟨rfl, hB2⟩
    have hbx := hbx.below hB2
    have hT2 := (hT1.below (by repeat (first | exact Below.refl _ _ | refine balloc ?_ _))).below hB2
    have hB2w : Below w.heap.size w w2 := bt (balloc hB1 _) hB2
    clear hl1 hT1 hB2
    obtain ⟨hlt2, p0, p1, p2, p3, p4⟩ := hbx.cells
    go_wp2_with fail
    go_at_call 20
    refine (hru _).mono ?_
    rintro e w3 ⟨rfl, hB3⟩
    have hbx := hbx.below hB3
    have hT3 := hT2.below hB3
    have hB3w : Below w.heap.size w w3 := bt hB2w hB3
    clear p0 p1 p2 p3 p4 hlt2 hB2w hT2 hB3
    obtain ⟨hlt3, p0, p1, p2, p3, p4⟩ := hbx.cells
    have HB : Aside (Below w.heap.size w w3) := hB3w
    have hTW := hT3
    clear hB3w hT3
    go_upto_region 12 with (go_at_call 10; refine (hsd _).mono ?_; rintro e w' ⟨rfl, hw'⟩; replace hw' := hw'.symm; subst hw')
    clear hnm hof hru hsd
    generalize w1.heap.size = gg at *
    have HS : ∀ W, Below w3.heap.size w3 W → W.cell? ⟨gg, 2, none⟩ = some (.int .i64 x.ln) ∧ W.cell? ⟨gg, 3, none⟩ = some (.int .i64 x.co) := fun W hB =>
      ⟨(hB.cell (p := ⟨gg, 2, none⟩) hlt3).trans p2, (hB.cell (p := ⟨gg, 3, none⟩) hlt3).trans p3⟩
    have hI1 : ∀ W, Below w3.heap.size w3 W → Calls Tryd.prog 35 #[.int .i64 x.ln] W fun e w' => e = .returned (.string s1) ∧ Below w3.heap.size w3 w' := fun W hB => (j1 W (hTW.below hB)).mono fun e w' ⟨he, hB'⟩ => ⟨he, bt hB hB'⟩
    have hI2 : ∀ W, Below w3.heap.size w3 W → Calls Tryd.prog 35 #[.int .i64 x.co] W fun e w' => e = .returned (.string s2) ∧ Below w3.heap.size w3 w' := fun W hB => (j2 W (hTW.below hB)).mono fun e w' ⟨he, hB'⟩ => ⟨he, bt hB hB'⟩
    have HBX : Aside (∀ W, Below w3.heap.size w3 W → gg < W.heap.size ∧ W.cell? ⟨gg, 0, none⟩ = some (.string x.m) ∧ W.cell? ⟨gg, 1, none⟩ = some (.string x.e) ∧ W.cell? ⟨gg, 4, none⟩ = some (.int .i64 x.ru)) := fun W hB =>
      ⟨Nat.lt_of_lt_of_le hlt3 hB.size, (hB.cell (p := ⟨gg, 0, none⟩) hlt3).trans p0, (hB.cell (p := ⟨gg, 1, none⟩) hlt3).trans p1, (hB.cell (p := ⟨gg, 4, none⟩) hlt3).trans p4⟩
    clear p0 p1 p2 p3 p4 j1 j2 hbx hTW hl hT
    go_region_held3 (fun W => W.cell? ⟨gg, 2, none⟩ = some (.int .i64 x.ln) ∧ W.cell? ⟨gg, 3, none⟩ = some (.int .i64 x.co)) (first | exact HS _ (by first | assumption | exact below_drew (Below.refl _ _))) (first | (go_at_call 35; first | (refine (hI1 _ (by first | assumption | exact below_drew (Below.refl _ _))).mono ?_; rintro e w7 ⟨rfl, hB7⟩) | (refine (hI2 _ (by first | assumption | exact below_drew (Below.refl _ _))).mono ?_; rintro e w8 ⟨rfl, hB8⟩)))
    · obtain ⟨hlt, q0, q1, q4⟩ := HBX.out w8 hB8
      go_wp2_with fail
      go_ret2
      exact ⟨rfl, bt HB.out hB8⟩
end Go.Proofs.YteaolcfpdhlohaaDoor
