/- A module with a long list, and one node more: what is told of it. Plain. -/
import Derived.Test.YtohjfikjbeafiaaGreatDoorIag
namespace Go.Proofs.YtohjfikjbeafiaaGreatDoor
namespace Ps
open Tr (T Nd)
open T1.Tx (Tk run rep hd)
set_option maxRecDepth 100000
theorem mods_long {L : List PT} {e : PT} {n : Nat} (hn : n + 2 = 4096) (hL : L.length = 16 + 2 * n) (s0 : sg L 0 = wModule) (s1 : kd L 1 = 2) (s2 : sg L 2 = [123]) (s3 : sg L 3 = wLet) (s4 : kd L 4 = 2) (s5 : sg L 5 = [61]) (s6 : sg L 6 = [91]) (s7 : kd L 7 = 3)
    (sm : ∀ i, i < n → sg L (6 + 2 + 2 * i) = [44] ∧ kd L (6 + 2 + 2 * i + 1) = 3) (t0 : sg L (8 + 2 * n) = [93]) (t1 : sg L (9 + 2 * n) = [59]) (t2 : sg L (10 + 2 * n) = wLet) (t3 : kd L (11 + 2 * n) = 2) (t4 : sg L (12 + 2 * n) = [61]) (t5 : kd L (13 + 2 * n) = 3) (t6 : sg L (14 + 2 * n) = [59]) (t7 : sg L (15 + 2 * n) = [125]) :
    ∃ ms, modsV L e = .ok (ms, 16 + 2 * n, [(3, pl (tok L e (11 + 2 * n)))]) := by
  have hz := wide_sz (L := L) (e := e) (3 + 3) n
  have d1 := dfH_ok (L := L) (e := e) (k := 3) s3 s4 s5 (exW_at (by omega) s6 s7 sm (by rw [show 6 + 2 + 2 * n = 8 + 2 * n by omega]; exact t0) (by rw [show 6 + 2 + 2 * n + 1 = 9 + 2 * n by omega, t1]; exact stop_semi)) (by rw [show 3 + 3 + 2 + 2 * n + 1 = 9 + 2 * n by omega]; exact t1)
  obtain ⟨x1, r1⟩ := dfR_ok (m := 0) s3 d1 (trE_none (by simp only [sz]; omega) (by omega))
  have d2 := dfH_ok (L := L) (e := e) (k := 10 + 2 * n) (j := 14 + 2 * n) t2 (by rw [show 10 + 2 * n + 1 = 11 + 2 * n by omega]; exact t3) (by rw [show 10 + 2 * n + 2 = 12 + 2 * n by omega]; exact t4) (by
    rw [show 10 + 2 * n + 3 = 13 + 2 * n by omega, show 14 + 2 * n = 13 + 2 * n + 1 by omega]
    exact exW_num t5 (by rw [show 13 + 2 * n + 1 = 14 + 2 * n by omega, t6]; exact stop_semi)) t6
  have hm : 0 + sz (wideT L e (3 + 3) n) = 4096 := by simp only [sz]; omega
  rw [hm, show 3 + 3 + 2 + 2 * n + 1 + 1 = 10 + 2 * n by omega] at r1
  obtain ⟨x2, r2⟩ := dfR_ok (m := 4096) (l := [(3, pl (tok L e (10 + 2 * n + 1)))]) t2 d2 (by unfold trE; rw [if_pos (by show 4096 < 4096 + 1; omega)])
  rw [show 14 + 2 * n + 1 = 15 + 2 * n by omega, show 10 + 2 * n + 1 = 11 + 2 * n by omega] at r2
  have hims : imsR L e (L.length - 3 + 1) [] 3 = .ok ([], 3, []) := by
    have u : imsR L e (L.length - 3 + 1) [] 3 = if sg L 3 = wImport then (match imR L e 3 with
      | .error j => .error j
      | .ok (i, j, l) => preV (lgE L e l ++ if 64 < ([] : List Im).length + 1 then [(2, (i.ln, i.co))] else []) (imsR L e (L.length - 3) ([] ++ [i]) j)) else .ok ([], 3, []) := rfl
    rw [u, if_neg (by rw [s3]; decide)]
  have hdfs : dfsR L e 0 (L.length - 3 + 1) [] 0 3 = .ok (([x1] ++ [x2], 4096 + sz (leaf L e (13 + 2 * n))), 15 + 2 * n, [(3, pl (tok L e (11 + 2 * n)))]) := by
    rw [show L.length - 3 + 1 = (L.length - 6) + 1 + 1 + 1 + 1 by omega, dfs_step s3 r1 (by simp), dfs_step t2 r2 (by simp), dfs_end t7]
    rfl
  have hmoH : moH L e 0 = .ok (tok L e 1, 3, []) := by
    unfold moH
    exact bnd_nil (expc_is s0) (bnd_nil (nam_is s1) (bnd_nil (expc_is s2) rfl))
  have hmo : ∃ m, moR L e 0 0 = .ok ((m, 4096 + sz (leaf L e (13 + 2 * n))), 15 + 2 * n + 1, [(3, pl (tok L e (11 + 2 * n)))]) := by
    unfold moR
    rw [hmoH]
    show ∃ m, moB L e (tok L e 1) 0 3 = _
    unfold moB
    rw [hims]
    simp only [List.length_nil]
    rw [hdfs]
    simp only [if_pos t7]
    exact ⟨_, rfl⟩
  obtain ⟨m, hmo⟩ := hmo
  have hend : sg L (15 + 2 * n + 1) ≠ wModule := by
    unfold sg; rw [List.getElem?_eq_none (by omega)]; decide
  have u : ∀ d acc n k, mosR L e (d + 1) acc n k = if sg L k = wModule then (match moR L e n k with
      | .error j => .error j
      | .ok ((x, n'), j, l) => preV (l ++ if 8 < acc.length + 1 then [(1, (x.ln, x.co))] else []) (mosR L e d (acc ++ [x]) n' j)) else .ok ((acc, n), k, []) := fun _ _ _ _ => rfl
  have hmos : mosR L e (L.length + 1) [] 0 0 = .ok (([] ++ [m], 4096 + sz (leaf L e (13 + 2 * n))), 15 + 2 * n + 1, [(3, pl (tok L e (11 + 2 * n)))]) := by
    rw [u, if_pos s0, hmo]
    show preV ([(3, pl (tok L e (11 + 2 * n)))] ++ if 8 < ([] : List Mo).length + 1 then [(1, (m.ln, m.co))] else []) (mosR L e L.length ([] ++ [m]) _ _) = _
    rw [show L.length = (L.length - 1) + 1 by omega, u, if_neg hend]
    rfl
  unfold modsV
  rw [hmos, show 15 + 2 * n + 1 = 16 + 2 * n by omega]
  exact ⟨_, rfl⟩
end Ps
end Go.Proofs.YtohjfikjbeafiaaGreatDoor
