/- The call of TreeBounds: it returns true. -/
import Derived.Test.YtkcehgpcimlamaaDoorWorks
namespace Go.Proofs.YtkcehgpcimlamaaDoor
open Go.RowKit
set_option maxRecDepth 100000
set_option linter.unusedSimpArgs false

theorem tyNodes : Tryd.prog.underlying 22 = some (.slice 65) := by kernel_rfl
theorem infoN : (Tryd.prog.info? 65).map (fun i => (i.zero, i.size, i.bytes)) = some (some (.agg #[.int .i8 0, .int .i64 0, .int .i64 0, .string ⟨#[]⟩, .string ⟨#[]⟩, .string ⟨#[]⟩, .int .i64 0, .int .i64 0]), 8, 88) := by kernel_rfl
theorem nrow_append (a b : List Tr.Nd) : nrow (a ++ b) = nrow a ++ nrow b := by simp [nrow]
theorem nrow_one (l : List Tr.Nd) : ∀ u ∈ nrow l, u.oneCell' = true := by
  intro u hu
  unfold nrow at hu
  obtain ⟨c, hc, hu⟩ := List.mem_flatten.1 hu
  obtain ⟨x, _, rfl⟩ := List.mem_map.1 hc
  simp [Tr.ncells] at hu
  rcases hu with rfl | rfl | rfl | rfl | rfl | rfl | rfl | rfl <;> rfl
theorem IsNodes.own {w : World} {base : Nat} {v : Value} {l : List Tr.Nd} (h : w.ownsRow base 65 8 v l.length (nrow l)) : IsNodes w v l := by
  by_cases h0 : l = []
  · subst h0
    obtain ⟨a, c, rfl⟩ := own_len h
    exact .inl ⟨rfl, a, c, rfl⟩
  · obtain ⟨g, cap, rfl, hc, hg, hcell⟩ := own_cells h (List.length_pos_iff.2 h0)
    have key : ∀ j x, l[j]? = some x → ∀ i u, (Tr.ncells x)[i]? = some u → w.cell? ⟨g, 0 + j * 8 + i, none⟩ = some u := by
      intro j x hx i u hu
      have hj : j < l.length := (List.getElem?_eq_some_iff.1 hx).1
      have hi : i < 8 := by have := (List.getElem?_eq_some_iff.1 hu).1; simpa [Tr.ncells] using this
      rw [Nat.zero_add, hcell (j * 8 + i) (by omega)]
      exact nrow_at l j x hx i u hu
    refine .inr ⟨g, 0, cap, rfl, hc, ?_, key⟩
    obtain ⟨x, r, rfl⟩ := List.exists_cons_of_ne_nil h0
    exact World.block_lt_of_cell? w _ (key 0 x rfl 0 _ rfl)
theorem own_nodes_lit (w : World) (l : List Tr.Nd) (hm : l.length ≤ maxLen) : (w.alloc (.cells (nrow l).toArray 65)).ownsRow w.heap.size 65 8 (.slice (some ⟨w.heap.size, 0, none⟩) l.length l.length) l.length (nrow l) :=
  ⟨nrow_len l, .inr ⟨w.heap.size, l.length, (nrow l).toArray, rfl, Nat.le_refl _, heap_alloc_new _ _, Nat.le_refl _, hm, by simp [nrow_len], by rw [← nrow_len]; simp⟩⟩

def neg : Tr.Nd := nd 16 1 0 [] [] []
def num (k : Int) : Tr.Nd := nd 1 0 k [] [] []
def chainL (n : Nat) : List Tr.Nd := List.replicate n neg ++ [num 0]
def wideL (n : Nat) : List Tr.Nd := nd 21 n 0 [] [] [] :: (List.range n).map (fun (k : Nat) => num (k : Int))
theorem chain_chk63 : chkN (chainL 63) = (0, 0) := by kernel_rfl
theorem chain_chk64 : chkN (chainL 64) = (16, 64) := by kernel_rfl
theorem num_may (k : Nat) : Tr.mayB (num (k : Int)) = true := by
  have h : Tr.nB (num (k : Int)) = true := by simp [Tr.nB, num, nd]
  unfold Tr.mayB
  rw [h]; rfl
theorem wide_ck : ∀ (n j i : Nat), Tr.ck Tr.mayB ((List.range' j n).map (fun (k : Nat) => num (k : Int))) [n, 0] i 0 = (0, 0)
  | 0, j, i => rfl
  | n + 1, j, i => by
    rw [List.range'_succ, List.map_cons, Tr.ck, if_neg (by simp [Tr.popz]), if_neg (by rw [num_may]; simp)]
    have := wide_ck n (j + 1) (i + 1)
    rw [← Tr.ck_pop] at this
    exact this
theorem wide_chk (n : Nat) (h : n + 1 ≤ 4096) : chkN (wideL n) = (0, 0) := by
  rw [chkN_ck (by simp [wideL]; omega)]
  unfold wideL
  have hm : Tr.mayB (nd 21 n 0 [] [] []) = true := by
    have h : Tr.fitB (nd 21 n 0 [] [] []) = true := by simp [Tr.fitB, nd]
    unfold Tr.mayB; rw [h]; rfl
  rw [Tr.ck, if_neg (by simp [Tr.popz]), if_neg (by rw [hm]; simp), List.range_eq_range']
  have := wide_ck n 0 1
  exact this
theorem wide_many : chkN (wideL 4096) = (17, 0) := chkN_many (.inr (by simp [wideL]))
theorem fits_of {l : List Tr.Nd} (h1 : l.length ≤ 5000) (h2 : ∀ x ∈ l, x.kids ≤ 5000 ∧ x.s.size ≤ 100) : Fits l :=
  ⟨by omega, fun x hx => by have := (h2 x hx).1; omega, fun x hx => by have := (h2 x hx).2; unfold maxLen; omega⟩
theorem chain_fits (n : Nat) (h : n ≤ 100) : Fits (chainL n) := by
  refine fits_of (by simp [chainL]; omega) ?_
  intro x hx
  unfold chainL at hx
  rcases List.mem_append.1 hx with hx | hx
  · rw [List.eq_of_mem_replicate hx]; decide
  · simp at hx; subst hx; decide
theorem wide_fits (n : Nat) (h : n ≤ 4096) : Fits (wideL n) := by
  refine fits_of (by simp [wideL]; omega) ?_
  intro x hx
  unfold wideL at hx
  rcases List.mem_cons.1 hx with rfl | hx
  · exact ⟨by simp [nd]; omega, by show (S []).size ≤ 100; decide⟩
  · obtain ⟨k, _, rfl⟩ := List.mem_map.1 hx
    exact ⟨by simp [num, nd], by show (S []).size ≤ 100; decide⟩

set_option maxHeartbeats 1000000 in
theorem chain_any (n : Nat) (hn : n ≤ 100) (w : World) : Calls Tryd.prog 34 #[.int .i64 (n : Int)] w fun e w' => ∃ v, e = .returned v ∧ IsNodes w' v (chainL n) ∧ Below w.heap.size w w' := by
  obtain ⟨i0, hi, hz0, hz1, hz2⟩ := info_parts infoN
  go_enter Tryd.func34, Tryd.ntmps34
  go_wp2_with fail
  go_loopg [3, 4] n (fun g v t wr => ∃ k : Nat, k + g = n ∧ t = .int .i64 (k : Int) ∧ wr.ownsRow w.heap.size 65 8 v k (nrow (List.replicate k neg)) ∧ Below w.heap.size w wr)
  case atStart => exact ⟨0, by omega, rfl, own_nil _ _ _ _, Below.refl _ _⟩
  case round =>
    obtain ⟨k, hkg, rfl, hown, hB⟩ := hrel
    obtain ⟨va, vc, rfl⟩ := own_len hown
    have hBs := hB.size
    by_cases hk : k < n
    · have hk' : (k : Int) < (n : Int) := by omega
      go_wp2_with (at_builtin; go_must (refine wpList_append_own _ rfl _ _ 22 rfl w.heap.size 65 i0 _ 8 88 tyNodes hi hz0 hz1 hz2 rfl (by decide) (.slice va k vc) _ _ rfl (hown.alloc _) ⟨wr.heap.size, 0, none⟩ 1 1 (nrow [neg]) rfl rfl (cells_list_new _ (nrow [neg]) 65) (nrow_one _) (by unfold maxLen; omega) (by omega) (by simp; omega) ?_); intro v3 w3 hown3 hg3 _)
      go_roundg (gk - 1)
      case measure => omega
      case rel => exact ⟨k + 1, by omega, by go_num, by rw [List.replicate_succ', nrow_append]; exact hown3, hB.grown (grownBy_alloc_pre hg3) hBs (fun x e => (hown.lt x e).1)⟩
    · have hk' : ¬ (k : Int) < (n : Int) := by omega
      obtain rfl : k = n := by omega
      go_wp2_with (at_builtin; go_must (refine wpList_append_own _ rfl _ _ 22 rfl w.heap.size 65 i0 _ 8 88 tyNodes hi hz0 hz1 hz2 rfl (by decide) (.slice va k vc) _ _ rfl (hown.alloc _) ⟨wr.heap.size, 0, none⟩ 1 1 (nrow [num 0]) rfl rfl (cells_list_new _ (nrow [num 0]) 65) (nrow_one _) (by unfold maxLen; omega) (by omega) (by simp; omega) ?_); intro v3 w3 hown3 hg3 _)
      go_ret
      refine ⟨_, rfl, IsNodes.own (base := w.heap.size) ?_, hB.grown (grownBy_alloc_pre hg3) hBs (fun x e => (hown.lt x e).1)⟩
      unfold chainL
      rw [nrow_append, List.length_append, List.length_replicate]
      exact hown3

set_option maxHeartbeats 1000000 in
theorem wide_any (n : Nat) (hn : n ≤ 4096) (w : World) : Calls Tryd.prog 35 #[.int .i64 (n : Int)] w fun e w' => ∃ v, e = .returned v ∧ IsNodes w' v (wideL n) ∧ Below w.heap.size w w' := by
  obtain ⟨i0, hi, hz0, hz1, hz2⟩ := info_parts infoN
  have h0 := own_nodes_lit w [nd 21 n 0 [] [] []] (by unfold maxLen; simp)
  go_enter Tryd.func35, Tryd.ntmps35
  go_wp2_with fail
  go_loopg [3, 4] n (fun g v t wr => ∃ k : Nat, k + g = n ∧ t = .int .i64 (k : Int) ∧ wr.ownsRow w.heap.size 65 8 v (k + 1) (nrow (nd 21 n 0 [] [] [] :: (List.range k).map (fun (k : Nat) => num (k : Int)))) ∧ Below w.heap.size w wr)
  case atStart => exact ⟨0, by omega, rfl, h0, balloc (Below.refl _ _) _⟩
  case round =>
    clear h0
    obtain ⟨k, hkg, rfl, hown, hB⟩ := hrel
    obtain ⟨va, vc, rfl⟩ := own_len hown
    have hBs := hB.size
    by_cases hk : k < n
    · have hk' : (k : Int) < (n : Int) := by omega
      go_wp2_with (at_builtin; go_must (refine wpList_append_own _ rfl _ _ 22 rfl w.heap.size 65 i0 _ 8 88 tyNodes hi hz0 hz1 hz2 rfl (by decide) (.slice va (k + 1) vc) _ _ rfl (hown.alloc _) ⟨wr.heap.size, 0, none⟩ 1 1 (nrow [num (k : Int)]) rfl rfl (cells_list_new _ (nrow [num (k : Int)]) 65) (nrow_one _) (by unfold maxLen; omega) (by omega) (by simp; omega) ?_); intro v3 w3 hown3 hg3 _)
      go_roundg (gk - 1)
      case measure => omega
      case rel =>
        refine ⟨k + 1, by omega, by go_num, ?_, hB.grown (grownBy_alloc_pre hg3) hBs (fun x e => (hown.lt x e).1)⟩
        rw [List.range_succ, List.map_append, ← List.cons_append, nrow_append]
        exact hown3
    · have hk' : ¬ (k : Int) < (n : Int) := by omega
      obtain rfl : k = n := by omega
      go_wp2_with fail
      go_ret
      refine ⟨_, rfl, IsNodes.own (base := w.heap.size) ?_, hB⟩
      unfold wideL
      rw [List.length_cons, List.length_map, List.length_range]
      exact hown
end Go.Proofs.YtkcehgpcimlamaaDoor
