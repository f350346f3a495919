/- Who is blamed, in words: the program's Text. -/
import Derived.Test.YteaolcfpdhlohaaDoorLbJ
import Derived.Deep.DeepCutAuto
namespace Go.Proofs.YteaolcfpdhlohaaDoor
open Go.RowKit
set_option maxRecDepth 100000
set_option linter.unusedSimpArgs false
attribute [local go_sem ↓] Go.wp_at_zero Go.wp_at_succ

namespace Lb
/-- The text of a blame, as the document has it. -/
def textB (x : Si) (b : Int) : List UInt8 :=
  (who x b).data.toList ++ ([32, 97, 116, 32] ++ (Lib.itoa x.ln ++ ([58] ++ (Lib.itoa x.co ++ ([32] ++ (ruleT x.ru ++ ([32] ++ sideT b)))))))
def textF (x : Si) (b : Int) : List UInt8 := if x.ru = 18 then textB x b ++ ([32, 102, 114, 111, 109, 32] ++ (x.e.data.toList ++ ([32, 116, 111, 32] ++ x.m.data.toList))) else textB x b
def placeL (x : Si) : List UInt8 := Lib.itoa x.ln ++ ([58] ++ Lib.itoa x.co)
theorem join5 (a c d e : List UInt8) : Lib.join [a, [97, 116], c, d, e] [32] = a ++ ([32, 97, 116, 32] ++ (c ++ ([32] ++ (d ++ ([32] ++ e))))) := by
  simp [Lib.join_cons, Lib.joinTail]
theorem join9 (a c d e f g : List UInt8) : Lib.join [a, [97, 116], c, d, e, [102, 114, 111, 109], f, [116, 111], g] [32] = a ++ ([32, 97, 116, 32] ++ (c ++ ([32] ++ (d ++ ([32] ++ (e ++ ([32, 102, 114, 111, 109, 32] ++ (f ++ ([32, 116, 111, 32] ++ g))))))))) := by
  simp [Lib.join_cons, Lib.joinTail]
theorem sideT_len (b : Int) : (sideT b).length ≤ 7 := by unfold sideT; split <;> simp
theorem who_len {x : Si} {b : Int} (h : x.m.size ≤ 1048576 ∧ x.e.size ≤ 1048576) : (who x b).size ≤ 1048576 := by unfold who; split <;> omega
end Lb

theorem info9 : (Tryd.prog.info? 9).map (fun i => (i.zero, i.size, i.bytes)) = some (some (.string ⟨#[]⟩), 1, 16) := by kernel_rfl
theorem tyTexts : Tryd.prog.underlying 71 = some (.slice 9) := by kernel_rfl
/-- Five texts in a block. -/
def Five (w : World) (g : Nat) (xs : List ByteArray) : Prop := g < w.heap.size ∧ ∀ (j : Nat) x, xs[j]? = some x → w.cell? ⟨g, 0 + j, none⟩ = some (.string x)

set_option maxHeartbeats 4000000 in
theorem text_none (l : List Lb.Si) (hlen : l.length ≤ 2199023255552) (b : Int) (h : -9223372036854775808 ≤ b) (h' : b ≤ 9223372036854775807) (hs : Lb.site l b = none) (v : Value) (w : World) (hl : IsSites w v l) :
    Calls Tryd.prog 15 #[v, .int .i64 b] w fun e w' => e = .returned (.tuple #[.string ⟨#[]⟩, .int .i64 1]) ∧ Below w.heap.size w w' := by
  have hof := of_none l hlen b h h' hs v w hl
  clear hs hl
  go_enter Tryd.func15, Tryd.ntmps15
  go_wp2_with (go_at_call 11; refine hof.mono ?_; rintro e w1 ⟨rfl, hB1⟩)
  go_ret2
  exact ⟨rfl, by repeat (first | exact hB1 | exact Below.refl _ _ | refine bset ?_ | refine balloc ?_ _)⟩

set_option maxHeartbeats 8000000 in
theorem text_some (l : List Lb.Si) (hlen : l.length ≤ 2199023255552) (b : Int) (h : -9223372036854775808 ≤ b) (h' : b ≤ 9223372036854775807) (x : Lb.Si) (hs : Lb.site l b = some x)
    (hx : (x.m.size ≤ 1048576 ∧ x.e.size ≤ 1048576) ∧ (-9223372036854775808 ≤ x.ln ∧ x.ln ≤ 9223372036854775807) ∧ (-9223372036854775808 ≤ x.co ∧ x.co ≤ 9223372036854775807) ∧ (-9223372036854775808 ≤ x.ru ∧ x.ru ≤ 9223372036854775807))
    (v : Value) (w : World) (hl : IsSites w v l) (hW : HasW w) (hT : Tab w) :
    Calls Tryd.prog 15 #[v, .int .i64 b] w fun e w' => e = .returned (.tuple #[.string (S (Lb.textF x b)), .int .i64 0]) ∧ Below w.heap.size w w' := by
  have hof := of_some l hlen b h h' x hs v w hl
  have hnm := fun w hl => named_some l hlen b h h' x hs v w hl
  obtain ⟨hz, ⟨a0, a1⟩, ⟨b0, b1⟩, ⟨c0, c1⟩⟩ := hx
  have hpl := placeText_any x.ln x.co a0 a1 b0 b1
  have hru := ruleText_any x.ru c0 c1
  have hsd := sideText_any b h h'
  have hwl := Lb.who_len (b := b) hz
  have hsl := Lb.sideT_len b
  have z1 := itoa_len x.ln a0 a1
  have z2 := itoa_len x.co b0 b1
  have z3 := ruleT_len x.ru c0 c1
  rw [show (⟨#[58]⟩ : ByteArray) = S [58] from rfl, S_append, S_append] at hpl
  have HJ5 : Aside (True → (Lib.join (([Lb.who x b, S [97, 116], S ((Lib.itoa x.ln ++ [58]) ++ Lib.itoa x.co), S (Lb.ruleT x.ru), S (Lb.sideT b)] : List ByteArray).map (·.data.toList)) (S [32]).data.toList) = Lb.textB x b) := fun _ => by
    show Lib.join [(Lb.who x b).data.toList, [97, 116], (Lib.itoa x.ln ++ [58]) ++ Lib.itoa x.co, Lb.ruleT x.ru, Lb.sideT b] [32] = _
    rw [Lb.join5]; unfold Lb.textB; simp
  have HJ9 : Aside (True → (Lib.join (([Lb.who x b, S [97, 116], S ((Lib.itoa x.ln ++ [58]) ++ Lib.itoa x.co), S (Lb.ruleT x.ru), S (Lb.sideT b), S [102, 114, 111, 109], x.e, S [116, 111], x.m] : List ByteArray).map (·.data.toList)) (S [32]).data.toList) = Lb.textB x b ++ ([32, 102, 114, 111, 109, 32] ++ (x.e.data.toList ++ ([32, 116, 111, 32] ++ x.m.data.toList)))) := fun _ => by
    show Lib.join [(Lb.who x b).data.toList, [97, 116], (Lib.itoa x.ln ++ [58]) ++ Lib.itoa x.co, Lb.ruleT x.ru, Lb.sideT b, [102, 114, 111, 109], x.e.data.toList, [116, 111], x.m.data.toList] [32] = _
    rw [Lb.join9]; unfold Lb.textB; simp
  rw [S_size] at z1 z2 z3
  have HL : Aside (True → (Lb.textB x b).length ≤ 1048700 ∧ (Lb.textB x b ++ ([32, 102, 114, 111, 109, 32] ++ (x.e.data.toList ++ ([32, 116, 111, 32] ++ x.m.data.toList)))).length ≤ 4194304) := fun _ => by
    have e1 := str_len (Lb.who x b)
    have e2 := str_len x.e
    have e3 := str_len x.m
    unfold Lb.textB
    simp only [List.length_append, List.length_cons, List.length_nil]
    omega
  have HF : Aside (True → (x.ru = 18 → Lb.textF x b = Lb.textB x b ++ ([32, 102, 114, 111, 109, 32] ++ (x.e.data.toList ++ ([32, 116, 111, 32] ++ x.m.data.toList)))) ∧ (¬ x.ru = 18 → Lb.textF x b = Lb.textB x b)) := fun _ =>
    ⟨fun h => by unfold Lb.textF; rw [if_pos h], fun h => by unfold Lb.textF; rw [if_neg h]⟩
  have hbd := isBorder_any x
  clear hs z1 z2 z3 hsl hwl hz
  generalize S ((Lib.itoa x.ln ++ [58]) ++ Lib.itoa x.co) = s1 at *
  generalize S (Lb.ruleT x.ru) = s2 at *
  generalize S (Lb.sideT b) = s3 at *
  generalize Lb.who x b = s0 at *
  generalize Lb.textB x b = tb at *
  generalize Lb.textF x b = tf at *
  go_enter Tryd.func15, Tryd.ntmps15
  go_wp2_with fail
  go_at_call 11
  refine hof.mono ?_
  rintro e w1 ⟨rfl, hB1⟩
  have hbx := Box.new w1 x.m x.e x.ln x.co x.ru 31
  have hl1 := hl.below hB1
  have hW1 := hW.below hB1
  have hT1 := hT.below hB1
  clear hl hW hT
  go_wp2_with fail
  go_at_call 13
  refine (hnm _ (hl1.below (by repeat (first | exact Below.refl _ _ | refine balloc ?_ _)))).mono ?_
  rintro e W0 ⟨rfl, hB2⟩
  have hbx := hbx.below hB2
  have hW2 := (hW1.below (by repeat (first | exact Below.refl _ _ | refine balloc ?_ _))).below hB2
  have hT2 := (hT1.below (by repeat (first | exact Below.refl _ _ | refine balloc ?_ _))).below hB2
  have HB0 : Aside (Below w.heap.size w W0) := bt (balloc hB1 _) hB2
  clear hl1 hW1 hT1 hnm hof hB1 hB2
  generalize w1.heap.size = g1 at *
  go_upto_region 5 with fail
  go_cut [10] (fun s10 wc => ∃ g, s10 = .slice (some ⟨g, 0, none⟩) 5 5 ∧ W0.heap.size ≤ g ∧ Five wc g [s0, S [97, 116], s1, s2, s3] ∧ wc.ownsRow W0.heap.size 9 1 (.slice (some ⟨g, 0, none⟩) 5 5) 5 [.string s0, .string (S [97, 116]), .string s1, .string s2, .string s3] ∧ Below W0.heap.size W0 wc)
  case first =>
    have hlt := hbx.1
    have HS : ∀ W, Below W0.heap.size W0 W → W.cell? ⟨g1, 2, none⟩ = some (.int .i64 x.ln) ∧ W.cell? ⟨g1, 3, none⟩ = some (.int .i64 x.co) ∧ W.cell? ⟨g1, 4, none⟩ = some (.int .i64 x.ru) := fun W hB => by
      obtain ⟨_, _, _, p2, p3, p4⟩ := (hbx.below hB).cells
      exact ⟨p2, p3, p4⟩
    have i1 : ∀ W, Below W0.heap.size W0 W → Calls Tryd.prog 31 #[.agg #[.int .i64 x.ln, .int .i64 x.co]] W fun e w' => e = .returned (.string s1) ∧ Below W0.heap.size W0 w' := fun W hB =>
      (hpl W (hT2.below hB)).mono fun e w' ⟨he, hB'⟩ => ⟨he, bt hB hB'⟩
    have i2 : ∀ W, Below W0.heap.size W0 W → Calls Tryd.prog 32 #[.int .i64 x.ru] W fun e w' => e = .returned (.string s2) ∧ Below W0.heap.size W0 w' := fun W hB =>
      (hru W (hW2.below hB) (hT2.below hB)).mono fun e w' ⟨he, hB'⟩ => ⟨he, bt hB hB'⟩
    have i3 : ∀ W, Below W0.heap.size W0 W → Calls Tryd.prog 33 #[.int .i64 b] W fun e w' => e = .returned (.string s3) ∧ Below W0.heap.size W0 w' := fun W hB =>
      (hsd W).mono fun e w' ⟨he, hw⟩ => ⟨he, by rw [hw]; exact hB⟩
    have HN : Aside (∀ W, Below W0.heap.size W0 W → ∃ g, Value.slice (some ⟨W.heap.size, 0, none⟩) 5 5 = .slice (some ⟨g, 0, none⟩) 5 5 ∧ W0.heap.size ≤ g ∧ Five (W.alloc (.cells #[.string s0, .string ⟨#[97, 116]⟩, .string s1, .string s2, .string s3] 9)) g [s0, S [97, 116], s1, s2, s3] ∧ (W.alloc (.cells #[.string s0, .string ⟨#[97, 116]⟩, .string s1, .string s2, .string s3] 9)).ownsRow W0.heap.size 9 1 (.slice (some ⟨g, 0, none⟩) 5 5) 5 [.string s0, .string (S [97, 116]), .string s1, .string s2, .string s3] ∧ Below W0.heap.size W0 (W.alloc (.cells #[.string s0, .string ⟨#[97, 116]⟩, .string s1, .string s2, .string s3] 9))) := by
      intro W hB
      have hh := heap_alloc_new W (.cells #[.string s0, .string ⟨#[97, 116]⟩, .string s1, .string s2, .string s3] 9)
      refine ⟨W.heap.size, rfl, hB.size, ⟨by simp, fun j y hy => ?_⟩, ⟨rfl, .inr ⟨W.heap.size, 5, _, rfl, hB.size, hh, Nat.le_refl _, by unfold maxLen; omega, rfl, rfl⟩⟩, hB.alloc hB.size _⟩
      rw [(block_cells hh).1, Nat.zero_add]
      have hy' : ([s0, S [97, 116], s1, s2, s3].map Value.string)[j]? = some (.string y) := by rw [List.getElem?_map, hy]; rfl
      rw [← hy']
      exact List.getElem?_toArray (xs := [s0, S [97, 116], s1, s2, s3].map Value.string) (i := j)
    clear hpl hru hsd hbd hbx hW2 hT2 HB0 HJ5 HJ9 HL HF
    go_region_held3 (fun W => W.cell? ⟨g1, 2, none⟩ = some (.int .i64 x.ln) ∧ W.cell? ⟨g1, 3, none⟩ = some (.int .i64 x.co) ∧ W.cell? ⟨g1, 4, none⟩ = some (.int .i64 x.ru)) (first | exact HS _ (by first | assumption | exact below_drew (Below.refl _ _) | exact balloc (by assumption) _)) (first | (go_at_call 31; refine (i1 _ (by first | assumption | exact below_drew (Below.refl _ _))).mono ?_; rintro e w1 ⟨rfl, hB1⟩) | (go_at_call 32; refine (i2 _ (by first | assumption | exact below_drew (Below.refl _ _))).mono ?_; rintro e w2 ⟨rfl, hB2⟩) | (go_at_call 33; refine (i3 _ (by first | assumption | exact below_drew (Below.refl _ _))).mono ?_; rintro e w3 ⟨rfl, hB3⟩))
    all_goals
      go_wp2_with fail
      go_meet
      case rel => exact HN.out _ (by assumption)
  case rest =>
    obtain ⟨g, rfl, hg, ⟨h5l, h5⟩, hown, hBx⟩ := hcut
    obtain ⟨hlt, p0, p1, p2, p3, p4⟩ := (hbx.below hBx).cells
    have HBx : Aside (Below w.heap.size w wc) := bt HB0.out hBx
    have hwW : w.heap.size ≤ W0.heap.size := HB0.out.size
    clear hpl hru hsd hbx hW2 hT2 HB0 hBx
    obtain ⟨i0, hi, hz0, hz1, hz2⟩ := info_parts info9
    by_cases hr : x.ru = 18
    · have hr' : (x.ru == 18) = true := by simpa using hr
      have HT : Aside (tf = tb ++ ([32, 102, 114, 111, 109, 32] ++ (x.e.data.toList ++ ([32, 116, 111, 32] ++ x.m.data.toList)))) := (HF.out trivial).1 hr
      clear hr HF HJ5 h5
      go_wp2_with fail
      go_at_call 30
      refine (hbd _).mono ?_
      rintro e w4 ⟨rfl, hB4⟩
      have own4 := own_below hown hB4
      have hg4 : W0.heap.size ≤ w4.heap.size := by have := hB4.size; omega
      obtain ⟨q0, q1⟩ : w4.cell? ⟨g1, 0, none⟩ = some (.string x.m) ∧ w4.cell? ⟨g1, 1, none⟩ = some (.string x.e) := ⟨(hB4.cell (p := ⟨g1, 0, none⟩) hlt).trans p0, (hB4.cell (p := ⟨g1, 1, none⟩) hlt).trans p1⟩
      have hlt4 : g1 < w4.heap.size := by have := hB4.size; omega
      have HB4 : Aside (Below w.heap.size w w4) := bt HBx.out hB4
      have own5 := own_below own4 (w' := w4.alloc (.cells #[.string ⟨#[102, 114, 111, 109]⟩, .string x.e, .string ⟨#[116, 111]⟩, .string x.m] 9)) ((Below.refl _ _).alloc (Nat.le_refl _) _)
      have hnews := cells_list_new w4 [.string ⟨#[102, 114, 111, 109]⟩, .string x.e, .string ⟨#[116, 111]⟩, .string x.m] 9
      clear p0 p1 p2 p3 p4 HBx own4 hown hB4
      have hone : ∀ u ∈ ([.string ⟨#[102, 114, 111, 109]⟩, .string x.e, .string ⟨#[116, 111]⟩, .string x.m] : List Value), u.oneCell' = true := by intro u hu; simp at hu; rcases hu with rfl | rfl | rfl | rfl <;> rfl
      have hbase : W0.heap.size ≤ (w4.alloc (.cells #[.string ⟨#[102, 114, 111, 109]⟩, .string x.e, .string ⟨#[116, 111]⟩, .string x.m] 9)).heap.size := by simp; omega
      go_wp2_with (at_builtin; go_must (refine wpList_append_own _ rfl _ _ 71 rfl W0.heap.size 9 i0 _ 1 16 tyTexts hi hz0 hz1 hz2 rfl (by decide) (.slice (some ⟨g, 0, none⟩) 5 5) _ _ rfl own5 ⟨w4.heap.size, 0, none⟩ 4 4 _ rfl rfl hnews hone (by unfold maxLen; omega) (by omega) hbase ?_); intro v3 w5 hown3 hg3 _)
      rw [show 5 + 4 = 9 from rfl] at hown3
      have HB5 : Aside (Below w.heap.size w w5) := (balloc HB4.out _).grown hg3 (by simp; omega) (fun k e => by have hk : some g = some k := e; have hk := Option.some.inj hk; omega)
      clear hg3
      obtain ⟨g9, cap9, hv9, hcap9, hgb9, hcell9⟩ := own_cells hown3 (by omega)
      cases hv9
      have hc5 : ∀ (j : Nat) y, [s0, S [97, 116], s1, s2, s3, S [102, 114, 111, 109], x.e, S [116, 111], x.m][j]? = some y → w5.cell? ⟨g9, 0 + j, none⟩ = some (.string y) := fun j y hy => by
        have hj : j < 9 := (List.getElem?_eq_some_iff.1 hy).1
        rw [Nat.zero_add, hcell9 j (by omega)]
        have hy' : ([s0, S [97, 116], s1, s2, s3, S [102, 114, 111, 109], x.e, S [116, 111], x.m].map Value.string)[j]? = some (.string y) := by rw [List.getElem?_map, hy]; rfl
        exact hy'
      have hb5 : g9 < w5.heap.size := World.block_lt_of_cell? _ _ (hc5 0 _ rfl)
      have HJ := Tryd.strings_Join g9 0 cap9 [s0, S [97, 116], s1, s2, s3, S [102, 114, 111, 109], x.e, S [116, 111], x.m] (S [32]) w5 hc5 hb5 (by simp) hcap9 (by rw [HJ9.out trivial]; have := (HL.out trivial).2; omega)
      rw [HJ9.out trivial, ← HT.out] at HJ
      have HJ' : Calls Tryd.prog 34 #[.slice (some ⟨g9, 0, none⟩) 9 cap9, .string ⟨#[32]⟩] w5 fun e w' => e = .returned (.string (S tf)) ∧ Below w5.heap.size w5 w' := HJ
      clear HJ
      clear HJ9 HL hc5 hcell9 hown3 own5 hnews HT
      go_at_call 34
      refine HJ'.mono ?_
      rintro e w6 ⟨rfl, hB6⟩
      go_wp2_with fail
      go_ret2
      exact ⟨rfl, bt HB5.out hB6⟩
    · have hr' : (x.ru == 18) = false := by simpa using hr
      have HT : Aside (tf = tb) := (HF.out trivial).2 hr
      clear hr HF HJ9 hown
      have HJ := fun w' hc hb => Tryd.strings_Join g 0 5 [s0, S [97, 116], s1, s2, s3] (S [32]) w' hc hb (by simp) (by simp) (by rw [HJ5.out trivial]; have := (HL.out trivial).1; omega)
      rw [HJ5.out trivial] at HJ
      clear HJ5 HL
      go_wp2_with fail
      go_at_call 30
      refine (hbd _).mono ?_
      rintro e w4 ⟨rfl, hB4⟩
      have hc4 : ∀ (j : Nat) y, [s0, S [97, 116], s1, s2, s3][j]? = some y → w4.cell? ⟨g, 0 + j, none⟩ = some (.string y) := fun j y hy => (hB4.cell (p := ⟨g, 0 + j, none⟩) h5l).trans (h5 j y hy)
      have hg4 : g < w4.heap.size := by have := hB4.size; omega
      have HB4 : Aside (Below w.heap.size w w4) := bt HBx.out hB4
      have HJ' := HJ w4 hc4 hg4
      clear p0 p1 p2 p3 p4 HBx hB4 hc4 h5 HJ
      go_wp2_with fail
      go_at_call 34
      refine HJ'.mono ?_
      rintro e w5 ⟨rfl, hB5⟩
      go_wp2_with fail
      go_ret2
      exact ⟨by rw [HT.out]; rfl, bt HB4.out hB5⟩
end Go.Proofs.YteaolcfpdhlohaaDoor
