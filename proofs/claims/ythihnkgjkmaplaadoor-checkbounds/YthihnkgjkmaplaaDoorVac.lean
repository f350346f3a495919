/- CheckBounds returns true. -/
import Derived.Test.YthihnkgjkmaplaaDoorVab
namespace Go.Proofs.YthihnkgjkmaplaaDoor
open Go.RowKit Ck
open T3.Tp (Ty enc cns met)
open Tr (flat wf)
set_option maxRecDepth 100000
set_option linter.unusedSimpArgs false


set_option maxHeartbeats 16000000 in
theorem checkBounds_any (w : World) (hG : HasG w) (hg : 5 ≤ w.heap.size) :
    Calls Tryd.prog 5 #[] w fun e w' => e = .returned (.bool true) ∧ Below w.heap.size w w' := by
  obtain ⟨i0, hi, hz0, hz1, hz2⟩ := info_parts infoN
  have p31 : ∀ w, Calls Tryd.prog 16 #[.int .i64 31] w fun e w' => ∃ v, e = .returned v ∧ w'.ownsRow w.heap.size 45 8 v 63 (nrow (pairsL 31)) ∧ Below w.heap.size w w' := pairs_any 31 (by omega)
  have p32 : ∀ w, Calls Tryd.prog 16 #[.int .i64 32] w fun e w' => ∃ v, e = .returned v ∧ w'.ownsRow w.heap.size 45 8 v 65 (nrow (pairsL 32)) ∧ Below w.heap.size w w' := pairs_any 32 (by omega)
  have l31 : (pairsL 31).length = 63 := by decide
  have l32 : (pairsL 32).length = 65 := by decide
  have cb1 := b1
  have cb2 := b2
  have cb3 := b3
  have cb6 := b6
  have cb7 := b7
  have cb8 := b8
  have nl32 : (nrow (pairsL 32)).length = 65 * 8 := by rw [nrow_len, l32]
  have on31 : ∀ {W : World} {B : Nat} {v : Value}, W.ownsRow B 45 8 v 63 (nrow (pairsL 31)) → IsNodes W v (pairsL 31) := fun h => IsNodes.own (by rw [l31]; exact h)
  have on32 : ∀ {W : World} {B : Nat} {v : Value}, W.ownsRow B 45 8 v 65 (nrow (pairsL 32)) → IsNodes W v (pairsL 32) := fun h => IsNodes.own (by rw [l32]; exact h)
  have on33 : ∀ {W : World} {B : Nat} {v : Value}, W.ownsRow B 45 8 v 66 (nrow [nod 16 1 [] [] []] ++ nrow (pairsL 32)) → IsNodes W v (nod 16 1 [] [] [] :: pairsL 32) := fun h => by
    rw [← nrow_append] at h
    exact IsNodes.own (l := [nod 16 1 [] [] []] ++ pairsL 32) (by rw [List.length_append, l32]; exact h)
  have nw32 : ∀ {W : World} {b c : Nat}, IsNodes W (.slice (some ⟨b, 0, none⟩) 65 c) (pairsL 32) → ∀ j u, (nrow (pairsL 32))[j]? = some u → W.cell? ((⟨b, 0, none⟩ : Addr).add j) = some u := fun h => nodes_news (by rw [l32]; exact h)
  have n1r : ∀ u ∈ nrow (pairsL 32), u.oneCell' = true := nrow_one _
  generalize pairsL 31 = P31 at *
  generalize pairsL 32 = P32 at *
  go_enter Tryd.func5, Tryd.ntmps5
  go_wp2_with fail
  go_at_call 16
  refine (p31 _).mono ?_
  rintro e w1 ⟨v1, rfl, own1, hB1⟩
  have hGi := hG.below hB1
  have hgi := Nat.le_trans hg hB1.size
  go_wp2_with fail
  refine (cb1 _ _ (on31 own1) hGi hgi).mono ?_
  rintro e w2 ⟨b2, c2, rfl, hB2⟩
  have hB := bt hB1 hB2
  clear own1 hB1 hB2 cb1 on31 p31 hGi hgi
  go_wp2_with fail
  go_at_call 16
  refine (p32 _).mono ?_
  rintro e w3 ⟨v3, rfl, own3, hB3⟩
  have hB := bt hB hB3
  go_wp2_with fail
  refine (cb2 _ _ _ _ (on32 own3) (txs_nil _) (txs_nil _) (hG.below hB) (Nat.le_trans hg hB.size)).mono ?_
  rintro e w4 ⟨b4, c4, rfl, hB4⟩
  have hB := bt hB hB4
  clear own3 hB3 hB4 cb2
  have hzw4 : w.heap.size ≤ w4.heap.size := hB.size
  have hlit := own_nodes_lit w4 [nod 16 1 [] [] []] (by decide)
  rw [show (nrow [nod 16 1 [] [] []]).toArray = #[.int .i8 16, .int .i64 1, .int .i64 0, .string ⟨#[]⟩, .string ⟨#[]⟩, .string ⟨#[]⟩, .int .i64 0, .int .i64 0] from rfl, show [nod 16 1 [] [] []].length = 1 from rfl] at hlit
  have hB5 : Below w4.heap.size w4 (w4.alloc (.cells #[.int .i8 16, .int .i64 1, .int .i64 0, .string ⟨#[]⟩, .string ⟨#[]⟩, .string ⟨#[]⟩, .int .i64 0, .int .i64 0] 45)) := (Below.refl _ _).alloc (Nat.le_refl _) _
  go_wp2_with fail
  go_at_call 16
  refine (p32 _).mono ?_
  rintro e w6 ⟨v6, rfl, own6, hB6⟩
  have hlit := own_below hlit hB6
  have hB := bt (bt hB hB5) hB6
  obtain ⟨b6', c6, rfl, hc6, hg6, _⟩ := own_cells own6 (by omega)
  have hnews := nw32 (on32 own6)
  have hz46 : w4.heap.size ≤ w6.heap.size := by have := hB5.size; have := hB6.size; omega
  clear hB5 hB6 own6 p32
  go_wp2_with (at_builtin; go_must (refine wpList_append_own _ rfl _ _ 22 rfl w4.heap.size 45 i0 _ 8 88 tyNodes hi hz0 hz1 hz2 rfl (by decide) (.slice (some ⟨w4.heap.size, 0, none⟩) 1 1) _ _ rfl hlit ⟨b6', 0, none⟩ 65 c6 (nrow P32) rfl nl32 hnews n1r (by unfold maxLen; omega) (by omega) hz46 ?_); intro v7 w7 own7 hg7 _)
  rw [show 1 + 65 = 66 from rfl] at own7
  have hB := hB.grown hg7 (by omega) (fun q e => by have hq : some w4.heap.size = some q := e; have hq := Option.some.inj hq; omega)
  refine (cb3 _ _ _ _ (on33 own7) (txs_nil _) (txs_nil _) (hG.below hB) (Nat.le_trans hg hB.size)).mono ?_
  rintro e w8 ⟨b8, c8, rfl, hB8⟩
  have hB := bt hB hB8
  have LA : ∀ W : World, IsNodes (W.alloc (.cells #[.int .i8 5, .int .i64 1, .int .i64 0, .string ⟨#[120]⟩, .string (S (longL 30)), .string ⟨#[108, 108, 105]⟩, .int .i64 0, .int .i64 0, .int .i8 4, .int .i64 0, .int .i64 0, .string ⟨#[121]⟩, .string ⟨#[]⟩, .string ⟨#[]⟩, .int .i64 0, .int .i64 0] 45)) (.slice (some ⟨W.heap.size, 0, none⟩) 2 2) (flat fnA) := fun W => lit_nodes W _ _ 2 rfl rfl
  have LB : ∀ W : World, IsNodes (W.alloc (.cells #[.int .i8 5, .int .i64 1, .int .i64 0, .string ⟨#[120]⟩, .string (S (longL 30)), .string ⟨#[108, 105]⟩, .int .i64 0, .int .i64 0, .int .i8 4, .int .i64 0, .int .i64 0, .string ⟨#[121]⟩, .string ⟨#[]⟩, .string ⟨#[]⟩, .int .i64 0, .int .i64 0] 45)) (.slice (some ⟨W.heap.size, 0, none⟩) 2 2) (flat fnB) := fun W => lit_nodes W _ _ 2 rfl rfl
  have LC : ∀ W : World, IsNodes (W.alloc (.cells #[.int .i8 9, .int .i64 3, .int .i64 0, .string ⟨#[]⟩, .string ⟨#[]⟩, .string ⟨#[]⟩, .int .i64 0, .int .i64 0, .int .i8 3, .int .i64 0, .int .i64 0, .string ⟨#[]⟩, .string ⟨#[]⟩, .string ⟨#[]⟩, .int .i64 0, .int .i64 0, .int .i8 4, .int .i64 0, .int .i64 0, .string ⟨#[120]⟩, .string ⟨#[]⟩, .string ⟨#[]⟩, .int .i64 0, .int .i64 0, .int .i8 4, .int .i64 0, .int .i64 0, .string ⟨#[121]⟩, .string ⟨#[]⟩, .string ⟨#[]⟩, .int .i64 0, .int .i64 0] 45)) (.slice (some ⟨W.heap.size, 0, none⟩) 4 4) (flat ifT) := fun W => lit_nodes W _ _ 4 rfl rfl
  have TN : ∀ W : World, T3.IsTexts (W.alloc (.cells #[.string ⟨#[120]⟩, .string ⟨#[121]⟩] 9)) (.slice (some ⟨W.heap.size, 0, none⟩) 2 2) [[120], [121]] := fun W => txs_lit W [[120], [121]] (by decide)
  have TT : ∀ W : World, T3.IsTexts (W.alloc (.cells #[.string (⟨#[44]⟩ ++ S (longL 16) ++ ⟨#[63]⟩), .string (⟨#[44, 63]⟩ ++ S (longL 16))] 9)) (.slice (some ⟨W.heap.size, 0, none⟩) 2 2) [tx1, tx2] := fun W => by
    have h := txs_lit W [tx1, tx2] (by simp)
    rw [show (T3.tcells [tx1, tx2]).toArray = #[.string (T3.S tx1), .string (T3.S tx2)] from rfl] at h
    rw [show T3.S tx1 = ⟨#[44]⟩ ++ S (longL 16) ++ ⟨#[63]⟩ by apply ByteArray.ext; simp [T3.S, S, tx1], show T3.S tx2 = ⟨#[44, 63]⟩ ++ S (longL 16) by apply ByteArray.ext; simp [T3.S, S, tx2]] at h
    exact h
  clear own7 hg7 hB8 cb3 on33 on32 nw32 n1r nl32 l31 l32 hlit hnews hz46 hz0 hz1 hz2 hi hc6 hg6
  go_wp2_with fail
  go_loopg [10, 11] 30 (fun gq sv t wr => w8 = wr ∧ ∃ k : Nat, k + gq = 30 ∧ t = .int .i64 (k : Int) ∧ sv = .string (S (longL k)))
  case atStart => exact ⟨rfl, 0, by omega, rfl, rfl⟩
  case round =>
    obtain ⟨rfl, k, hkg, rfl, rfl⟩ := hrel
    by_cases hk : k < 30
    · have hk' : (k : Int) < 30 := by omega
      have hsz := long_size k
      have hsz : (S (longL k)).size ≤ 100 := by omega
      have HS : Aside ((⟨#[44, 105]⟩ : ByteArray) ++ S (longL k) = S (longL (k + 1))) := long_step k
      generalize S (longL k) = sk at *
      go_wp2_with fail
      go_roundg (30 - (k + 1))
      case measure => omega
      case rel => exact ⟨rfl, k + 1, by omega, by go_num, by rw [← HS.out]⟩
    · have hk' : ¬ (k : Int) < 30 := by omega
      obtain rfl : k = 30 := by omega
      have s61 : (S (longL 30)).size = 61 := long_size 30
      have shf : (S (longL 30)).extract 28 61 = S (longL 16) := by rw [S_cut]; exact congrArg S (by decide)
      have s33 : (S (longL 16)).size = 33 := long_size 16
      generalize S (longL 30) = sL at *
      generalize S (longL 16) = sH at *
      have hz33 : ¬ 9223372036854775807 < 1 + sH.size := by omega
      go_wp2_with fail
      refine (cb6 _ _ _ _ (LA _) (txs_nil _) (txs_nil _) (hG.below (balloc hB _)) (Nat.le_trans hg (balloc hB _).size)).mono ?_
      rintro e w9 ⟨b9, c9, rfl, hB9⟩
      have hB := bt (balloc hB _) hB9
      clear hB9 cb6 LA
      go_wp2_with fail
      refine (cb7 _ _ _ _ (LB _) (txs_nil _) (txs_nil _) (hG.below (balloc hB _)) (Nat.le_trans hg (balloc hB _).size)).mono ?_
      rintro e wa ⟨ba, ca, rfl, hBa⟩
      have hB := bt (balloc hB _) hBa
      clear hBa cb7 LB
      have hlC := LC wa
      have hlC := (hlC.below ((Below.refl _ _).alloc (Nat.le_refl _) (.cells #[.string ⟨#[120]⟩, .string ⟨#[121]⟩] 9))).below ((Below.refl _ _).alloc (Nat.le_refl _) (.cells #[.string (⟨#[44]⟩ ++ sH ++ ⟨#[63]⟩), .string (⟨#[44, 63]⟩ ++ sH)] 9))
      have htN := txs_below (TN (wa.alloc (.cells #[.int .i8 9, .int .i64 3, .int .i64 0, .string ⟨#[]⟩, .string ⟨#[]⟩, .string ⟨#[]⟩, .int .i64 0, .int .i64 0, .int .i8 3, .int .i64 0, .int .i64 0, .string ⟨#[]⟩, .string ⟨#[]⟩, .string ⟨#[]⟩, .int .i64 0, .int .i64 0, .int .i8 4, .int .i64 0, .int .i64 0, .string ⟨#[120]⟩, .string ⟨#[]⟩, .string ⟨#[]⟩, .int .i64 0, .int .i64 0, .int .i8 4, .int .i64 0, .int .i64 0, .string ⟨#[121]⟩, .string ⟨#[]⟩, .string ⟨#[]⟩, .int .i64 0, .int .i64 0] 45))) ((Below.refl _ _).alloc (Nat.le_refl _) (.cells #[.string (⟨#[44]⟩ ++ sH ++ ⟨#[63]⟩), .string (⟨#[44, 63]⟩ ++ sH)] 9))
      have htT := TT ((wa.alloc (.cells #[.int .i8 9, .int .i64 3, .int .i64 0, .string ⟨#[]⟩, .string ⟨#[]⟩, .string ⟨#[]⟩, .int .i64 0, .int .i64 0, .int .i8 3, .int .i64 0, .int .i64 0, .string ⟨#[]⟩, .string ⟨#[]⟩, .string ⟨#[]⟩, .int .i64 0, .int .i64 0, .int .i8 4, .int .i64 0, .int .i64 0, .string ⟨#[120]⟩, .string ⟨#[]⟩, .string ⟨#[]⟩, .int .i64 0, .int .i64 0, .int .i8 4, .int .i64 0, .int .i64 0, .string ⟨#[121]⟩, .string ⟨#[]⟩, .string ⟨#[]⟩, .int .i64 0, .int .i64 0] 45)).alloc (.cells #[.string ⟨#[120]⟩, .string ⟨#[121]⟩] 9))
      rw [show (wa.alloc (.cells #[.int .i8 9, .int .i64 3, .int .i64 0, .string ⟨#[]⟩, .string ⟨#[]⟩, .string ⟨#[]⟩, .int .i64 0, .int .i64 0, .int .i8 3, .int .i64 0, .int .i64 0, .string ⟨#[]⟩, .string ⟨#[]⟩, .string ⟨#[]⟩, .int .i64 0, .int .i64 0, .int .i8 4, .int .i64 0, .int .i64 0, .string ⟨#[120]⟩, .string ⟨#[]⟩, .string ⟨#[]⟩, .int .i64 0, .int .i64 0, .int .i8 4, .int .i64 0, .int .i64 0, .string ⟨#[121]⟩, .string ⟨#[]⟩, .string ⟨#[]⟩, .int .i64 0, .int .i64 0] 45)).heap.size = wa.heap.size + 1 by simp] at htN
      rw [show ((wa.alloc (.cells #[.int .i8 9, .int .i64 3, .int .i64 0, .string ⟨#[]⟩, .string ⟨#[]⟩, .string ⟨#[]⟩, .int .i64 0, .int .i64 0, .int .i8 3, .int .i64 0, .int .i64 0, .string ⟨#[]⟩, .string ⟨#[]⟩, .string ⟨#[]⟩, .int .i64 0, .int .i64 0, .int .i8 4, .int .i64 0, .int .i64 0, .string ⟨#[120]⟩, .string ⟨#[]⟩, .string ⟨#[]⟩, .int .i64 0, .int .i64 0, .int .i8 4, .int .i64 0, .int .i64 0, .string ⟨#[121]⟩, .string ⟨#[]⟩, .string ⟨#[]⟩, .int .i64 0, .int .i64 0] 45)).alloc (.cells #[.string ⟨#[120]⟩, .string ⟨#[121]⟩] 9)).heap.size = wa.heap.size + 1 + 1 by simp] at htT
      clear LC TN TT
      go_wp2_with fail
      refine (cb8 _ _ _ _ hlC htN htT (hG.below (balloc (balloc (balloc hB _) _) _)) (Nat.le_trans hg (balloc (balloc (balloc hB _) _) _).size)).mono ?_
      rintro e wb ⟨bb, cb, rfl, hBb⟩
      have hB := bt (balloc (balloc (balloc hB _) _) _) hBb
      clear hBb cb8 hlC htN htT
      go_wp2_with fail
      go_at_call 6
      refine (works_any _ (hG.below hB) (Nat.le_trans hg hB.size)).mono ?_
      rintro e wc' ⟨rfl, hBc⟩
      go_wp2_with fail
      go_ret
      exact ⟨rfl, bt hB hBc⟩
end Go.Proofs.YthihnkgjkmaplaaDoor
