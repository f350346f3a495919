/- A module with a long list, and one node more: the readings of its parts. Plain. -/
import Derived.Test.YtohjfikjbeafiaaGreatDoorIaf
namespace Go.Proofs.YtohjfikjbeafiaaGreatDoor
namespace Ps
open Tr (T Nd)
open T1.Tx (Tk run rep hd)
set_option maxRecDepth 100000
section
variable {L : List PT} {e : PT}
theorem stop_semi : Stop [59] := ⟨by decide, by decide, by decide, by decide, by decide⟩
theorem exW_at {k n : Nat} (hk : k + 2 + 2 * n + 1 ≤ L.length) (s0 : sg L k = [91]) (s1 : kd L (k + 1) = 3) (sm : ∀ i, i < n → sg L (k + 2 + 2 * i) = [44] ∧ kd L (k + 2 + 2 * i + 1) = 3) (sb : sg L (k + 2 + 2 * n) = [93]) (se : Stop (sg L (k + 2 + 2 * n + 1))) :
    exW L e k = .ok (wideT L e k n, k + 2 + 2 * n + 1, []) := by
  unfold exW
  exact pe_atom (10 * (L.length - k)) (fun s hm => by rw [s0]; simp at hm; rcases hm with rfl | rfl | rfl | rfl | rfl | rfl <;> decide) (pe_list (by omega) s0 s1 sm sb) se
theorem exW_num {k : Nat} (s0 : kd L k = 3) (se : Stop (sg L (k + 1))) : exW L e k = .ok (leaf L e k, k + 1, []) := by
  have hs := sg_num s0
  unfold exW
  exact pe_atom (10 * (L.length - k)) (fun s hm => by rw [hs]; simp at hm; rcases hm with rfl | rfl | rfl | rfl | rfl | rfl <;> decide) ((u_num _ k s0).trans rfl) se
theorem expc_is {s : List UInt8} {k : Nat} (h : sg L k = s) : expc L e s k = .ok (tok L e k, k + 1, []) := by unfold expc; rw [if_pos h]
theorem nam_is {k : Nat} (h : kd L k = 2) : nam L e k = .ok (tok L e k, k + 1, []) := by unfold nam; rw [if_pos h]
theorem ann_no {k : Nat} (h : sg L k ≠ [58]) : ann L k = .ok (none, k, []) := by unfold ann; rw [if_neg h]
theorem bnd_nil {α β : Type} {r : Re α} {a : α} {j : Nat} {f : α → Nat → Re β} {b : β} {i : Nat} (h : r = .ok (a, j, [])) (h2 : f a j = .ok (b, i, [])) : bnd r f = .ok (b, i, []) := by rw [bnd_ok _ h, h2]; rfl
theorem dfH_ok {k j : Nat} {t : T} (h0 : sg L k = wLet) (h1 : kd L (k + 1) = 2) (h2 : sg L (k + 2) = [61]) (hx : exW L e (k + 3) = .ok (t, j, [])) (h3 : sg L j = [59]) : dfH L e k = .ok ((tok L e (k + 1), none, t), j + 1, []) := by
  unfold dfH
  exact bnd_nil (expc_is h0) (bnd_nil (nam_is h1) (bnd_nil (ann_no (by rw [h2]; decide)) (bnd_nil (expc_is h2) (bnd_nil hx (bnd_nil (expc_is h3) rfl)))))
theorem dfR_ok {m k j : Nat} {t : T} {l : List Ev} (h0 : sg L k = wLet) (h : dfH L e k = .ok ((tok L e (k + 1), none, t), j, [])) (hl : trE (pl (tok L e (k + 1))) m t = l) : ∃ x, dfR L e m k = .ok ((x, m + sz t), j, l) := by
  unfold dfR
  rw [if_neg (by rw [h0]; decide), h, ← hl]
  exact ⟨_, rfl⟩
theorem dfs_step {m d n n' k j : Nat} {acc : List Df} {x : Df} {l : List Ev} (h0 : sg L k = wLet) (h : dfR L e n k = .ok ((x, n'), j, l)) (hm : m + (acc.length + 1) ≤ 64) : dfsR L e m (d + 1) acc n k = preV l (dfsR L e m d (acc ++ [x]) n' j) := by
  have u : dfsR L e m (d + 1) acc n k = if sg L k = wExport ∨ sg L k = wLet then (match dfR L e n k with
      | .error j => .error j
      | .ok ((x, n'), j, l) => preV (l ++ if 64 < m + (acc.length + 1) then [(2, (x.ln, x.co))] else []) (dfsR L e m d (acc ++ [x]) n' j)) else .ok ((acc, n), k, []) := rfl
  rw [u, if_pos (.inr h0), h]
  show preV (l ++ if 64 < m + (acc.length + 1) then [(2, (x.ln, x.co))] else []) _ = _
  rw [if_neg (by omega), List.append_nil]
theorem dfs_end {m d n k : Nat} {acc : List Df} (h0 : sg L k = [125]) : dfsR L e m (d + 1) acc n k = .ok ((acc, n), k, []) := by
  have u : dfsR L e m (d + 1) acc n k = if sg L k = wExport ∨ sg L k = wLet then (match dfR L e n k with
      | .error j => .error j
      | .ok ((x, n'), j, l) => preV (l ++ if 64 < m + (acc.length + 1) then [(2, (x.ln, x.co))] else []) (dfsR L e m d (acc ++ [x]) n' j)) else .ok ((acc, n), k, []) := rfl
  rw [u, if_neg (by rw [h0]; decide)]
end
end Ps
end Go.Proofs.YtohjfikjbeafiaaGreatDoor
