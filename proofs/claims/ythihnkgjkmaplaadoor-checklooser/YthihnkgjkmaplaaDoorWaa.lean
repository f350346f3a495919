/- CheckBounds: so many pairs. -/
import Derived.Test.YthihnkgjkmaplaaDoorUbk
import Derived.Maps.AppendAt
namespace Go.Proofs.YthihnkgjkmaplaaDoor
open Go.RowKit Ck
open T3.Tp (Ty enc cns met)
open Tr (flat wf)
set_option maxRecDepth 100000
set_option linter.unusedSimpArgs false

theorem nrow_get : ∀ (l : List Tr.Nd) (j : Nat) (u : Value), (nrow l)[j]? = some u → ∃ x, l[j / 8]? = some x ∧ (Tr.ncells x)[j % 8]? = some u
  | [], j, u, h => by simp [nrow] at h
  | x :: l, j, u, h => by
    rw [nrow_cons] at h
    by_cases hj : j < 8
    · rw [List.getElem?_append_left (by simp [Tr.ncells]; omega)] at h
      exact ⟨x, by rw [show j / 8 = 0 by omega]; rfl, by rw [show j % 8 = j by omega]; exact h⟩
    · rw [List.getElem?_append_right (by simp [Tr.ncells]; omega)] at h
      obtain ⟨y, h1, h2⟩ := nrow_get l _ u h
      have e : (Tr.ncells x).length = 8 := rfl
      rw [e] at h1 h2
      refine ⟨y, ?_, by rw [show j % 8 = (j - 8) % 8 by omega]; exact h2⟩
      rw [show j / 8 = (j - 8) / 8 + 1 by omega, List.getElem?_cons_succ]; exact h1
theorem nodes_news {w : World} {b o c : Nat} {l : List Tr.Nd} (h : IsNodes w (.slice (some ⟨b, o, none⟩) l.length c) l) : ∀ j u, (nrow l)[j]? = some u → w.cell? ((⟨b, o, none⟩ : Addr).add j) = some u := by
  intro j u hj
  obtain ⟨x, h1, h2⟩ := nrow_get l j u hj
  obtain ⟨b', o', e, _, _, hcell⟩ := h.at h1
  cases e
  have h3 := hcell _ u h2
  rw [show o + j / 8 * 8 + j % 8 = o + j by omega] at h3
  unfold Addr.add
  by_cases h0 : j = 0
  · subst h0; simpa using h3
  · simpa [h0] using h3

theorem pairsL_len : ∀ n, (pairsL n).length = 2 * n + 1
  | 0 => rfl
  | n + 1 => by simp [pairsL, pairsL_len n]; omega

set_option maxHeartbeats 4000000 in
theorem pairs_any (n : Nat) (hn : n ≤ 100) (w : World) :
    Calls Tryd.prog 16 #[.int .i64 (n : Int)] w fun e w' => ∃ v, e = .returned v ∧ w'.ownsRow w.heap.size 45 8 v (2 * n + 1) (nrow (pairsL n)) ∧ Below w.heap.size w w' := by
  obtain ⟨i0, hi, hz0, hz1, hz2⟩ := info_parts infoN
  have hlit := own_nodes_lit w (pairsL 0) (by decide)
  have hB0 : Below w.heap.size w (w.alloc (.cells (nrow (pairsL 0)).toArray 45)) := (Below.refl _ _).alloc (Nat.le_refl _) _
  rw [show (nrow (pairsL 0)).toArray = #[.int .i8 1, .int .i64 0, .int .i64 0, .string ⟨#[]⟩, .string ⟨#[]⟩, .string ⟨#[]⟩, .int .i64 0, .int .i64 0] from rfl] at hlit hB0
  go_enter Tryd.func16, Tryd.ntmps16
  go_wp2_with fail
  go_loopg [3, 4] n (fun gq s t wr => ∃ k : Nat, k + gq = n ∧ t = .int .i64 (k : Int) ∧ wr.ownsRow w.heap.size 45 8 s (2 * k + 1) (nrow (pairsL k)) ∧ Below w.heap.size w wr)
  case atStart => exact ⟨0, by omega, rfl, hlit, hB0⟩
  case round =>
    clear hlit hB0
    obtain ⟨k, hkg, rfl, hown, hB⟩ := hrel
    obtain ⟨b, cap, rfl, hcap, hbg, hcl⟩ := own_cells hown (by omega)
    by_cases hk : k < n
    · have hk' : (k : Int) < (n : Int) := by omega
      have hz := hB.size
      have hisn : IsNodes wr (.slice (some ⟨b, 0, none⟩) (pairsL k).length cap) (pairsL k) := by rw [pairsL_len]; exact IsNodes.own (by rw [pairsL_len]; exact hown)
      have hB2 : Below wr.heap.size wr (wr.alloc (.cells (nrow [nod 18 2 [] [] [], nod 1 0 [] [] []]).toArray 45)) := (Below.refl _ _).alloc (Nat.le_refl _) _
      have hlit := own_nodes_lit wr [nod 18 2 [] [] [], nod 1 0 [] [] []] (by decide)
      have hnews := nodes_news (hisn.below hB2)
      have hlen : (nrow (pairsL k)).length = (2 * k + 1) * 8 := by rw [nrow_len, pairsL_len]
      have hbase : w.heap.size ≤ (wr.alloc (.cells (nrow [nod 18 2 [] [] [], nod 1 0 [] [] []]).toArray 45)).heap.size := by simp; omega
      have HN : Aside (nrow [nod 18 2 [] [] [], nod 1 0 [] [] []] ++ nrow (pairsL k) = nrow (pairsL (k + 1))) := by show _ = _; rw [← nrow_append]; rfl
      have hE : (nrow [nod 18 2 [] [] [], nod 1 0 [] [] []]).toArray = #[.int .i8 18, .int .i64 2, .int .i64 0, .string ⟨#[]⟩, .string ⟨#[]⟩, .string ⟨#[]⟩, .int .i64 0, .int .i64 0, .int .i8 1, .int .i64 0, .int .i64 0, .string ⟨#[]⟩, .string ⟨#[]⟩, .string ⟨#[]⟩, .int .i64 0, .int .i64 0] := rfl
      rw [hE] at hB2 hlit hnews hbase
      rw [show [nod 18 2 [] [] [], nod 1 0 [] [] []].length = 2 from rfl] at hlit
      have hBw : Below w.heap.size w (wr.alloc (.cells #[.int .i8 18, .int .i64 2, .int .i64 0, .string ⟨#[]⟩, .string ⟨#[]⟩, .string ⟨#[]⟩, .int .i64 0, .int .i64 0, .int .i8 1, .int .i64 0, .int .i64 0, .string ⟨#[]⟩, .string ⟨#[]⟩, .string ⟨#[]⟩, .int .i64 0, .int .i64 0] 45)) := bt hB hB2
      clear hE hB2 hisn hown hcl hB
      go_wp2_with (at_builtin; go_must (refine wpList_append_own _ rfl _ _ 22 rfl wr.heap.size 45 i0 _ 8 88 tyNodes hi hz0 hz1 hz2 rfl (by decide) (.slice (some ⟨wr.heap.size, 0, none⟩) 2 2) _ _ rfl hlit ⟨b, 0, none⟩ (2 * k + 1) cap (nrow (pairsL k)) rfl hlen hnews (nrow_one _) (by unfold maxLen; omega) (by omega) (by simp) ?_); intro v3 w3 hown3 hg3 _)
      go_roundg (n - (k + 1))
      case measure => omega
      case rel =>
        refine ⟨k + 1, by omega, by go_num, ?_, hBw.grown hg3 hbase (fun q e => by have hq : some wr.heap.size = some q := e; have hq := Option.some.inj hq; omega)⟩
        rw [HN.out, show 2 + (2 * k + 1) = 2 * (k + 1) + 1 by omega] at hown3
        exact own_mono hown3 hz
    · have hk' : ¬ (k : Int) < (n : Int) := by omega
      obtain rfl : k = n := by omega
      go_wp2_with fail
      go_ret
      exact ⟨_, rfl, hown, hB⟩
end Go.Proofs.YthihnkgjkmaplaaDoor
