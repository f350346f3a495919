/- The two longest lists of the limits, as expressions. Plain. -/
import Derived.Test.YtohjfikjbeafiaaGreatDoorIae
namespace Go.Proofs.YtohjfikjbeafiaaGreatDoor
namespace Ps
open Tr (T Nd)
open T1.Tx (Tk run rep hd)
set_option maxRecDepth 100000
def A1 : List (Tk × Nat) := [(⟨5, 0, [91]⟩, 0), (⟨3, 0, []⟩, 1)]
def C1 : List (Tk × Nat) := [(⟨5, 0, [93]⟩, 8190)]
def wide1 : List UInt8 := [91, 48] ++ (rep 4094 ++ [93])
theorem all_wide1 : T1.Tx.all wide1 = .ok (A1 ++ (run 4094 2 ++ C1)) :=
  T1.Tx.all_mid (pre := [91, 48]) (post := [93]) (a := 2) (c := 1) wide1 rfl (by kernel_rfl) (by kernel_rfl) (by kernel_rfl) (by decide) (by decide)
def A2 : List (Tk × Nat) := [(⟨3, 1, []⟩, 0), (⟨5, 0, [61, 61]⟩, 2), (⟨5, 0, [91]⟩, 5), (⟨3, 0, []⟩, 6)]
def C2 : List (Tk × Nat) := [(⟨5, 0, [93]⟩, 8195)]
def wide2 : List UInt8 := [49, 32, 61, 61, 32, 91, 48] ++ (rep 4094 ++ [93])
theorem all_wide2 : T1.Tx.all wide2 = .ok (A2 ++ (run 4094 7 ++ C2)) :=
  T1.Tx.all_mid (pre := [49, 32, 61, 61, 32, 91, 48]) (post := [93]) (a := 6) (c := 1) wide2 rfl (by kernel_rfl) (by kernel_rfl) (by kernel_rfl) (by decide) (by decide)

theorem expr_list (bs : List UInt8) (n p : Nat) (A C : List (Tk × Nat)) (hA : A.length = 2) (hC : C.length = 1) (h0 : sgl A 0 = [91]) (h1 : kdl A 1 = 3) (hc : sgl C 0 = [93]) (hn : n + 2 ≤ 4096) (hall : T1.Tx.all bs = .ok (A ++ (run n p ++ C))) : ∃ ns, exprF bs = .ok ns := by
  have hL : (ptsOf bs (A ++ (run n p ++ C))).length = 2 * n + 3 := by rw [pts_length]; simp only [List.length_append, T1.Tx.run_len, hA, hC]; omega
  have s0 : sg (ptsOf bs (A ++ (run n p ++ C))) 0 = [91] := by rw [sg_pts, ← h0]; unfold sgl; rw [head_get _ _ _ (by omega)]
  have s1 : kd (ptsOf bs (A ++ (run n p ++ C))) 1 = 3 := by rw [kd_pts, ← h1]; unfold kdl; rw [head_get _ _ _ (by omega)]
  have sm : ∀ i, i < n → sg (ptsOf bs (A ++ (run n p ++ C))) (0 + 2 + 2 * i) = [44] ∧ kd (ptsOf bs (A ++ (run n p ++ C))) (0 + 2 + 2 * i + 1) = 3 := fun i hi => by
    have mg := mid_get A C n p i hi
    rw [hA] at mg
    rw [sg_pts, kd_pts, Nat.zero_add]; exact mg
  have sb : sg (ptsOf bs (A ++ (run n p ++ C))) (0 + 2 + 2 * n) = [93] := by
    have tg := tail_get A C n p 0
    rw [hA, Nat.add_zero] at tg
    rw [sg_pts, ← hc, Nat.zero_add]; unfold sgl; rw [tg]
  unfold exprF
  rw [srcW_ok hall]
  generalize ptEnd bs = e
  generalize ptsOf bs (A ++ (run n p ++ C)) = L at *
  have hz := wide_sz (L := L) (e := e) 0 n
  exact ⟨_, finW_ok (exprV_ok (exW_list hL s0 s1 sm sb) (trE_none (by simp only [sz]; omega) (by omega))) (by omega)⟩
theorem expr_rel (bs : List UInt8) (n p : Nat) (A C : List (Tk × Nat)) (hA : A.length = 4) (hC : C.length = 1) (h0 : kdl A 0 = 3) (h1 : sgl A 1 = [61, 61]) (h2 : sgl A 2 = [91]) (h3 : kdl A 3 = 3) (hp : (A[0]?).map (·.2) = some 0) (hc : sgl C 0 = [93]) (hn : 4096 < n + 4) (hall : T1.Tx.all bs = .ok (A ++ (run n p ++ C))) : exprF bs = .error (17, (1, 1)) := by
  have hL : (ptsOf bs (A ++ (run n p ++ C))).length = 2 * n + 5 := by rw [pts_length]; simp only [List.length_append, T1.Tx.run_len, hA, hC]; omega
  have s0 : kd (ptsOf bs (A ++ (run n p ++ C))) 0 = 3 := by rw [kd_pts, ← h0]; unfold kdl; rw [head_get _ _ _ (by omega)]
  have s1 : sg (ptsOf bs (A ++ (run n p ++ C))) 1 = [61, 61] := by rw [sg_pts, ← h1]; unfold sgl; rw [head_get _ _ _ (by omega)]
  have s2 : sg (ptsOf bs (A ++ (run n p ++ C))) 2 = [91] := by rw [sg_pts, ← h2]; unfold sgl; rw [head_get _ _ _ (by omega)]
  have s3 : kd (ptsOf bs (A ++ (run n p ++ C))) 3 = 3 := by rw [kd_pts, ← h3]; unfold kdl; rw [head_get _ _ _ (by omega)]
  have t0 : ∀ e, pl (tok (ptsOf bs (A ++ (run n p ++ C))) e 0) = (1, 1) := fun e => by
    unfold tok ptsOf
    rw [List.getElem?_map, head_get _ _ _ (by omega)]
    cases ha : A[0]? with
    | none => rw [ha] at hp; cases hp
    | some x => rw [ha] at hp; have hx : x.2 = 0 := by simpa using hp
                simp [pl, ptOf, hx, T1.Tx.lnTo, T1.Tx.stTo]
  have sm : ∀ i, i < n → sg (ptsOf bs (A ++ (run n p ++ C))) (2 + 2 + 2 * i) = [44] ∧ kd (ptsOf bs (A ++ (run n p ++ C))) (2 + 2 + 2 * i + 1) = 3 := fun i hi => by
    have mg := mid_get A C n p i hi
    rw [hA] at mg
    rw [sg_pts, kd_pts]; exact mg
  have sb : sg (ptsOf bs (A ++ (run n p ++ C))) (2 + 2 + 2 * n) = [93] := by
    have tg := tail_get A C n p 0
    rw [hA, Nat.add_zero] at tg
    rw [sg_pts, ← hc]; unfold sgl; rw [tg]
  unfold exprF
  rw [srcW_ok hall]
  generalize ptEnd bs = e
  have t0 := t0 e
  generalize ptsOf bs (A ++ (run n p ++ C)) = L at *
  have hz := wide_sz (L := L) (e := e) 2 n
  have hz2 : 4096 < sz (two 14 (tok L e 1) (leaf L e 0) (wideT L e 2 n)) := by
    show 4096 < (Tr.flat (two 14 (tok L e 1) (leaf L e 0) (wideT L e 2 n))).length
    simp only [two, Tr.flat, Tr.flats, leaf, List.length_append, List.length_cons, List.length_nil, hz.1]
    omega
  exact finW_many (exprV_ok (exW_rel hL s0 s1 s2 s3 sm sb) ((trE_many hz2).trans (by rw [t0]))) (by omega) rfl
theorem expr_wide1 : ∃ ns, exprF wide1 = .ok ns := expr_list wide1 4094 2 A1 C1 rfl rfl rfl rfl rfl (by omega) all_wide1
theorem expr_wide2 : exprF wide2 = .error (17, (1, 1)) := expr_rel wide2 4094 7 A2 C2 rfl rfl rfl rfl rfl rfl rfl rfl (by omega) all_wide2
end Ps
end Go.Proofs.YtohjfikjbeafiaaGreatDoor
