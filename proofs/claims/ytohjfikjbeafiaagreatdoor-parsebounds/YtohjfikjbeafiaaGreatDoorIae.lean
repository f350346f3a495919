/- The long lists of the limits, as expressions: what is told of them. Plain. -/
import Derived.Test.YtohjfikjbeafiaaGreatDoorIad
namespace Go.Proofs.YtohjfikjbeafiaaGreatDoor
namespace Ps
open Tr (T Nd)
open T1.Tx (Tk run rep hd)
set_option maxRecDepth 100000

theorem stop_nil : Stop [] := ⟨by decide, by decide, by decide, by decide, by decide⟩
theorem pts_length (bs : List UInt8) (l : List (Tk × Nat)) : (ptsOf bs l).length = l.length := by unfold ptsOf; rw [List.length_map]
theorem srcW_ok {α : Type} {V : List PT → PT → Rv α} {bs : List UInt8} {l : List (Tk × Nat)} (h : T1.Tx.all bs = .ok l) : srcW V bs = finW (ptsOf bs l) (ptEnd bs) (V (ptsOf bs l) (ptEnd bs)) := by
  unfold srcW; rw [h]
theorem finW_ok {α : Type} {L : List PT} {e : PT} {r : Rv α} {a : α} {j : Nat} (h : r = .ok (a, j, [])) (hj : ¬ j < L.length) : finW L e r = .ok a := by
  rw [h]; show (if j < L.length then _ else _) = _; rw [if_neg hj]; rfl
theorem finW_many {α : Type} {L : List PT} {e : PT} {r : Rv α} {a : α} {j : Nat} {l : List Ev} {c : Int} {q : Int × Int} (h : r = .ok (a, j, l)) (hj : ¬ j < L.length) (hf : firstL (effE lm0 l) = some (c, q)) : finW L e r = .error (c, q) := by
  rw [h]; show (if j < L.length then _ else _) = _; rw [if_neg hj, hf]
theorem exprV_ok {L : List PT} {e : PT} {t : T} {j : Nat} {l : List Ev} (h : exW L e 0 = .ok (t, j, [])) (hl : trE (pl (tok L e 0)) 0 t = l) : exprV L e = .ok (trL 0 t, j, l) := by
  unfold exprV; rw [h, ← hl]; rfl
theorem trE_none {t : T} {p : Int × Int} (h1 : sz t ≤ 4096) (h2 : Tr.high t ≤ 64) : trE p 0 t = [] := by
  unfold trE; rw [if_neg (by omega), if_neg (by omega)]
theorem trE_many {t : T} {p : Int × Int} (h1 : 4096 < sz t) : trE p 0 t = [(3, p)] := by
  unfold trE; rw [if_pos (by omega)]
/-- A list alone. -/
theorem exW_list {L : List PT} {e : PT} {n : Nat} (hL : L.length = 2 * n + 3) (s0 : sg L 0 = [91]) (s1 : kd L 1 = 3) (sm : ∀ i, i < n → sg L (0 + 2 + 2 * i) = [44] ∧ kd L (0 + 2 + 2 * i + 1) = 3) (sb : sg L (0 + 2 + 2 * n) = [93]) :
    exW L e 0 = .ok (wideT L e 0 n, 0 + 2 + 2 * n + 1, []) := by
  have se : sg L (0 + 2 + 2 * n + 1) = [] := by
    unfold sg; rw [List.getElem?_eq_none (by omega)]
  unfold exW
  rw [hL, Nat.sub_zero]
  exact pe_atom (10 * (2 * n + 3)) (fun s hm => by rw [s0]; simp at hm; rcases hm with rfl | rfl | rfl | rfl | rfl | rfl <;> decide) (pe_list (by omega) s0 s1 sm sb) (by rw [se]; exact stop_nil)
/-- A number, a mark of a relation, a list. -/
theorem exW_rel {L : List PT} {e : PT} {n : Nat} (hL : L.length = 2 * n + 5) (s0 : kd L 0 = 3) (s1 : sg L 1 = [61, 61]) (s2 : sg L 2 = [91]) (s3 : kd L 3 = 3) (sm : ∀ i, i < n → sg L (2 + 2 + 2 * i) = [44] ∧ kd L (2 + 2 + 2 * i + 1) = 3) (sb : sg L (2 + 2 + 2 * n) = [93]) :
    exW L e 0 = .ok (two 14 (tok L e 1) (leaf L e 0) (wideT L e 2 n), 2 + 2 + 2 * n + 1, []) := by
  have se : sg L (2 + 2 + 2 * n + 1) = [] := by
    unfold sg; rw [List.getElem?_eq_none (by omega)]
  have h0 := sg_num s0
  unfold exW
  rw [hL, Nat.sub_zero, show 10 * (2 * n + 5) + 7 = (10 * (2 * n + 5) + 5) + 1 + 1 by omega]
  have a1 : pe L e (10 * (2 * n + 5) + 5) .sm 0 = .ok (leaf L e 0, 1, []) := pe_sm _ (by rw [h0]; decide) (by rw [h0]; decide) ((u_num _ 0 s0).trans rfl) (by rw [s1]; decide) (by rw [s1]; decide) (by rw [s1]; decide)
  have a2 : pe L e (10 * (2 * n + 5) + 5) .sm 2 = .ok (wideT L e 2 n, 2 + 2 + 2 * n + 1, []) := pe_sm _ (by rw [s2]; decide) (by rw [s2]; decide) (pe_list (by omega) s2 s3 sm sb) (by rw [se]; decide) (by rw [se]; decide) (by rw [se]; decide)
  have a3 : pe L e (10 * (2 * n + 5) + 5 + 1) .rk 0 = .ok (two 14 (tok L e 1) (leaf L e 0) (wideT L e 2 n), 2 + 2 + 2 * n + 1, []) := by
    rw [u_rk, bnd_ok _ a1, s1, if_pos (by decide)]
    unfold binR
    rw [bnd_ok _ a2]
    rfl
  rw [u_ex, h0, if_neg (by decide), if_neg (by decide), if_neg (by decide), if_neg (by decide), bnd_ok _ a3, se, if_neg (by decide)]
  rfl
end Ps
end Go.Proofs.YtohjfikjbeafiaaGreatDoor
