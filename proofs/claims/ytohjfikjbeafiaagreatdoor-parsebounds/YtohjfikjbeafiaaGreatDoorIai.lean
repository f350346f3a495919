/- The long module of the limits. Plain. -/
import Derived.Test.YtohjfikjbeafiaaGreatDoorIah
namespace Go.Proofs.YtohjfikjbeafiaaGreatDoor
namespace Ps
open Tr (T Nd)
open T1.Tx (Tk run rep hd)
set_option maxRecDepth 100000
theorem no_ten {bs : List UInt8} (h : bs.all (fun c => c != 10) = true) (j : Nat) : (T1.Tx.B bs j == 10) = false := by
  unfold T1.Tx.B
  cases hj : bs[j]? with
  | none => rfl
  | some c =>
    have hc : (c != 10) = true := List.all_eq_true.1 h c (List.mem_of_getElem? hj)
    have hc : c ≠ 10 := by simpa using hc
    have : c.toNat ≠ 10 := fun x => hc (UInt8.toNat_inj.1 x)
    simp only [Option.getD_some]
    rw [beq_eq_false_iff_ne]
    omega
theorem mods_mid (bs : List UInt8) (n p at' : Nat) (A C : List (Tk × Nat)) (hn : n + 2 = 4096) (hA : A.length = 8) (hC : C.length = 8)
    (ha : sgl A 0 = wModule ∧ kdl A 1 = 2 ∧ sgl A 2 = [123] ∧ sgl A 3 = wLet ∧ kdl A 4 = 2 ∧ sgl A 5 = [61] ∧ sgl A 6 = [91] ∧ kdl A 7 = 3)
    (hc : sgl C 0 = [93] ∧ sgl C 1 = [59] ∧ sgl C 2 = wLet ∧ kdl C 3 = 2 ∧ sgl C 4 = [61] ∧ kdl C 5 = 3 ∧ sgl C 6 = [59] ∧ sgl C 7 = [125]) (hp : (C[3]?).map (·.2) = some at') (h10 : bs.all (fun c => c != 10) = true) (hall : T1.Tx.all bs = .ok (A ++ (run n p ++ C))) : modsF bs = .error (17, (1, (at' : Int) + 1)) := by
  have hL : (ptsOf bs (A ++ (run n p ++ C))).length = 16 + 2 * n := by rw [pts_length]; simp only [List.length_append, T1.Tx.run_len, hA, hC]; omega
  have hs : ∀ j, j < 8 → sg (ptsOf bs (A ++ (run n p ++ C))) j = sgl A j ∧ kd (ptsOf bs (A ++ (run n p ++ C))) j = kdl A j := fun j hj => by
    rw [sg_pts, kd_pts]; unfold sgl kdl; rw [head_get _ _ _ (by omega)]; exact ⟨rfl, rfl⟩
  have ht : ∀ j, sg (ptsOf bs (A ++ (run n p ++ C))) (8 + 2 * n + j) = sgl C j ∧ kd (ptsOf bs (A ++ (run n p ++ C))) (8 + 2 * n + j) = kdl C j := fun j => by
    have tg := tail_get A C n p j
    rw [hA] at tg
    rw [sg_pts, kd_pts]; unfold sgl kdl; rw [tg]; exact ⟨rfl, rfl⟩
  have sm : ∀ i, i < n → sg (ptsOf bs (A ++ (run n p ++ C))) (6 + 2 + 2 * i) = [44] ∧ kd (ptsOf bs (A ++ (run n p ++ C))) (6 + 2 + 2 * i + 1) = 3 := fun i hi => by
    have mg := mid_get A C n p i hi
    rw [hA] at mg
    rw [sg_pts, kd_pts]; exact mg
  have t0 : ∀ e, pl (tok (ptsOf bs (A ++ (run n p ++ C))) e (11 + 2 * n)) = (1, (at' : Int) + 1) := fun e => by
    have tg := tail_get A C n p 3
    rw [hA, show 8 + 2 * n + 3 = 11 + 2 * n by omega] at tg
    unfold tok ptsOf
    rw [List.getElem?_map, tg]
    cases hx : C[3]? with
    | none => rw [hx] at hp; cases hp
    | some x =>
      rw [hx] at hp
      have hx : x.2 = at' := by simpa using hp
      have ls := T1.Tx.lnst_same bs 0 at' (fun j _ _ => no_ten h10 j)
      rw [Nat.zero_add] at ls
      simp [pl, ptOf, hx, ls.1, ls.2, T1.Tx.lnTo, T1.Tx.stTo]
  have f : ∀ j, 8 + 2 * n + j = 8 + j + 2 * n := fun j => by omega
  unfold modsF
  rw [srcW_ok hall]
  generalize ptEnd bs = e
  have t0 := t0 e
  generalize ptsOf bs (A ++ (run n p ++ C)) = L at *
  have g : ∀ j, sg L (8 + j + 2 * n) = sgl C j ∧ kd L (8 + j + 2 * n) = kdl C j := fun j => by rw [← f j]; exact ht j
  obtain ⟨a0, a1, a2, a3, a4, a5, a6, a7⟩ := ha
  obtain ⟨c0, c1, c2, c3, c4, c5, c6, c7⟩ := hc
  obtain ⟨ms, hv⟩ := mods_long (L := L) (e := e) hn hL ((hs 0 (by omega)).1.trans a0) ((hs 1 (by omega)).2.trans a1) ((hs 2 (by omega)).1.trans a2) ((hs 3 (by omega)).1.trans a3) ((hs 4 (by omega)).2.trans a4) ((hs 5 (by omega)).1.trans a5) ((hs 6 (by omega)).1.trans a6) ((hs 7 (by omega)).2.trans a7) sm
    ((g 0).1.trans c0) ((g 1).1.trans c1) ((g 2).1.trans c2) ((g 3).2.trans c3) ((g 4).1.trans c4) ((g 5).2.trans c5) ((g 6).1.trans c6) ((g 7).1.trans c7)
  rw [t0] at hv
  refine finW_many hv (by omega) ?_
  unfold firstL effE
  simp [psE, lm0, note]
def A3 : List (Tk × Nat) := [(⟨1, 0, [109, 111, 100, 117, 108, 101]⟩, 0), (⟨2, 0, [109]⟩, 7), (⟨5, 0, [123]⟩, 9), (⟨1, 0, [108, 101, 116]⟩, 10), (⟨2, 0, [120]⟩, 14), (⟨5, 0, [61]⟩, 15), (⟨5, 0, [91]⟩, 16), (⟨3, 0, []⟩, 17)]
def C3 : List (Tk × Nat) := [(⟨5, 0, [93]⟩, 8206), (⟨5, 0, [59]⟩, 8207), (⟨1, 0, [108, 101, 116]⟩, 8208), (⟨2, 0, [121]⟩, 8212), (⟨5, 0, [61]⟩, 8213), (⟨3, 1, []⟩, 8214), (⟨5, 0, [59]⟩, 8215), (⟨5, 0, [125]⟩, 8216)]
def wide3 : List UInt8 := [109, 111, 100, 117, 108, 101, 32, 109, 32, 123, 108, 101, 116, 32, 120, 61, 91, 48] ++ (rep 4094 ++ [93, 59, 108, 101, 116, 32, 121, 61, 49, 59, 125])
theorem all_wide3 : T1.Tx.all wide3 = .ok (A3 ++ (run 4094 18 ++ C3)) :=
  T1.Tx.all_mid (pre := [109, 111, 100, 117, 108, 101, 32, 109, 32, 123, 108, 101, 116, 32, 120, 61, 91, 48]) (post := [93, 59, 108, 101, 116, 32, 121, 61, 49, 59, 125]) (a := 11) (c := 9) wide3 rfl (by kernel_rfl) (by kernel_rfl) (by kernel_rfl) (by decide) (by decide)
theorem mods_wide3 : modsF wide3 = .error (17, (1, ((8212 : Nat) : Int) + 1)) := mods_mid wide3 4094 18 8212 A3 C3 (by omega) rfl rfl ⟨rfl, rfl, rfl, rfl, rfl, rfl, rfl, rfl⟩ ⟨rfl, rfl, rfl, rfl, rfl, rfl, rfl, rfl⟩ rfl (by kernel_rfl) all_wide3
end Ps
end Go.Proofs.YtohjfikjbeafiaaGreatDoor
