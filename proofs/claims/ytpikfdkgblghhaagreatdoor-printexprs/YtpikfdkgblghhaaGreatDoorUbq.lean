/- The one closed call that every statement of layer 7 makes first: it answers true. -/
import Derived.Test.YtpikfdkgblghhaaGreatDoorUbp
import Derived.Test.YtpikfdkgblghhaaGreatDoorUbd
import Derived.KernelRfl
namespace Go.Proofs.YtpikfdkgblghhaaGreatDoor
open Go.RowKit Pn
set_option maxRecDepth 100000
set_option linter.unusedSimpArgs false
set_option linter.unusedVariables false
namespace Pn
/-- Nodes as cells, one behind the other. -/
def nrow (l : List Tr.Nd) : List Value := (l.map Tr.ncells).flatten
theorem nrow_cons (x : Tr.Nd) (l : List Tr.Nd) : nrow (x :: l) = Tr.ncells x ++ nrow l := rfl
theorem nrow_at : ∀ (l : List Tr.Nd) (j : Nat) (x : Tr.Nd), l[j]? = some x → ∀ i u, (Tr.ncells x)[i]? = some u → (nrow l)[j * 8 + i]? = some u
  | [], j, x, h, _, _, _ => by simp at h
  | y :: l, 0, x, h, i, u, hu => by
    simp at h; subst h
    have hi : i < (Tr.ncells y).length := (List.getElem?_eq_some_iff.1 hu).1
    rw [nrow_cons, Nat.zero_mul, Nat.zero_add, List.getElem?_append_left hi]; exact hu
  | y :: l, j + 1, x, h, i, u, hu => by
    rw [nrow_cons, List.getElem?_append_right (by simp [Tr.ncells]; omega)]
    have := nrow_at l j x (by simpa using h) i u hu
    rw [← this]
    congr 1
    simp [Tr.ncells]; omega
/-- A list that is written out. -/
theorem nodes_lit (w : World) (l : List Tr.Nd) (t : TypeId) (fr : Nat × Nat) (cap : Nat) (hcap : l.length ≤ cap) : IsNodes (w.alloc (.cells (nrow l).toArray t fr)) (.slice (some ⟨w.heap.size, 0, none⟩) l.length cap) l := by
  refine .inr ⟨_, 0, cap, rfl, hcap, by simp, fun j x hx i u hu => ?_⟩
  rw [World.cell?_alloc_mark, List.getElem?_toArray, Nat.zero_add]
  exact nrow_at l j x hx i u hu
def k1 : Tr.T := .nd (nd 11 2 0 [] [] []) [.nd (nd 1 0 1 [] [] []) [], .nd (nd 11 2 0 [] [] []) [.nd (nd 1 0 2 [] [] []) [], .nd (nd 4 0 0 [120] [] []) []]]
def k1l : List Tr.Nd := [nd 11 2 0 [] [] [], nd 1 0 1 [] [] [], nd 11 2 0 [] [] [], nd 1 0 2 [] [] [], nd 4 0 0 [120] [] []]
def k2l : List Tr.Nd := [nd 1 0 0 [] [] []]
def k2 : Tr.T := .nd (nd 1 0 0 [] [] []) []
def kd : Df := ⟨S [120], false, S [105], k2l, 0, 0⟩
def km : Md := ⟨S [109], [], [kd], 0, 0⟩
theorem k1_flat : k1l = Tr.flat k1 := by kernel_rfl
theorem k2_flat : k2l = Tr.flat k2 := by kernel_rfl
theorem k1_wf : Tr.wf k1 := by simp [k1, Tr.wf, Tr.wfs, nd]
theorem k2_wf : Tr.wf k2 := by simp [k2, Tr.wf, Tr.wfs, nd]
theorem k1_chk : chkN k1l = (0, 0) := by kernel_rfl
theorem k1_fits : Fits k1l := ⟨by decide, by intro x hx; simp [k1l] at hx; rcases hx with rfl | rfl | rfl | rfl | rfl <;> decide, by intro x hx; simp [k1l] at hx; rcases hx with rfl | rfl | rfl | rfl | rfl <;> decide⟩
theorem k1_held : ∀ x ∈ k1l, Held x := by intro x hx; simp [k1l] at hx; rcases hx with rfl | rfl | rfl | rfl | rfl <;> exact ⟨⟨by decide, by decide⟩, by decide⟩
theorem km_mod : modN [km] = 0 := by kernel_rfl
theorem k0_chk : chkN [] = (17, 0) := by kernel_rfl
theorem k0_fits : Fits [] := ⟨by decide, (fun x hx => (by cases hx)), (fun x hx => (by cases hx))⟩
theorem k2_fits : Fits k2l := ⟨by decide, by intro x hx; simp [k2l] at hx; subst hx; decide, by intro x hx; simp [k2l] at hx; subst hx; decide⟩
theorem itoa_lo (n : Nat) (h : n < 10) : Lib.itoa (n : Int) = [UInt8.ofNat (48 + n)] := by rw [itoa_pos (by omega), Int.toNat_natCast, dec_small h]
theorem k1_pr : pr Lib.itoa k1 = [49, 32, 45, 32, 40, 50, 32, 45, 32, 120, 41] := by
  have h1 : Lib.itoa 1 = [49] := itoa_lo 1 (by decide)
  have h2 : Lib.itoa 2 = [50] := itoa_lo 2 (by decide)
  unfold k1
  simp [pr_nd, prs_cons, prs_nil, prK, pcA, pcB, pcC, askd, root, rk, br, nd, h1, h2, S_list]
theorem k2_pr : pr Lib.itoa k2 = [48] := by
  have h1 : Lib.itoa 0 = [48] := itoa_lo 0 (by decide)
  unfold k2
  simp [pr_nd, prs_nil, pcA, pcC, nd, h1]
theorem km_txt : mdsT [km] = [109, 111, 100, 117, 108, 101, 32, 109, 32, 123, 10, 32, 32, 108, 101, 116, 32, 120, 32, 58, 32, 105, 110, 116, 32, 61, 32, 48, 59, 10, 125, 10] := by
  have hn : note [105] = [32, 58, 32, 105, 110, 116] := note_enc .ti
  have ht : trT k2l = [48] := by rw [k2_flat, trT_flat k2_wf, k2_pr]
  simp [mdsT, mdT, imsT, dfsT, dfT, km, kd, S_list, hn, ht]
theorem km_fits : FitsM [km] := by
  have e : ∀ m ∈ [km], m = km := by intro m hm; simpa using hm
  have e2 : ∀ x ∈ km.defs, x = kd := by intro x hx; simpa [km] using hx
  refine ⟨by decide, fun m hm => ?_, fun m hm => ?_, fun m hm => ?_, fun m hm => ?_, fun m hm => ?_, fun m hm => ?_⟩
  all_goals rw [e m hm]
  · decide
  · decide
  · decide
  · intro x hx; simp [km] at hx
  · intro x hx; rw [e2 x hx]; decide
  · intro x hx; rw [e2 x hx]; exact k2_fits
theorem km_held : ∀ m ∈ [km], ∀ x ∈ m.defs, ∀ y ∈ x.tree, Held y := by
  intro m hm x hx y hy
  simp at hm; subst hm
  simp [km] at hx; subst hx
  simp [kd, k2l] at hy; subst hy
  exact ⟨⟨by decide, by decide⟩, by decide⟩
/-- Modules that are written out. -/
theorem mods_lit (w : World) : IsMods (((w.alloc (.cells (nrow k2l).toArray 52)).alloc (.cells (dfcells kd (.slice (some ⟨w.heap.size, 0, none⟩) 1 1)).toArray 54)).alloc (.cells (mdcells km (.slice none 0 0) (.slice (some ⟨w.heap.size + 1, 0, none⟩) 1 1)).toArray 58)) (.slice (some ⟨w.heap.size + 1 + 1, 0, none⟩) 1 1) [km] := by
  have hb2 := heap_alloc_new ((w.alloc (.cells (nrow k2l).toArray 52)).alloc (.cells (dfcells kd (.slice (some ⟨w.heap.size, 0, none⟩) 1 1)).toArray 54)) (.cells (mdcells km (.slice none 0 0) (.slice (some ⟨w.heap.size + 1, 0, none⟩) 1 1)).toArray 58)
  have hs2 : ((w.alloc (.cells (nrow k2l).toArray 52)).alloc (.cells (dfcells kd (.slice (some ⟨w.heap.size, 0, none⟩) 1 1)).toArray 54)).heap.size = w.heap.size + 1 + 1 := by simp
  rw [hs2] at hb2
  have hb1 := heap_alloc_new (w.alloc (.cells (nrow k2l).toArray 52)) (.cells (dfcells kd (.slice (some ⟨w.heap.size, 0, none⟩) 1 1)).toArray 54)
  have hs1 : (w.alloc (.cells (nrow k2l).toArray 52)).heap.size = w.heap.size + 1 := by simp
  rw [hs1] at hb1
  have hl := nodes_lit w k2l 52 (0, 0) 1 (by decide)
  have hl2 := (hl.below ((Below.refl _ _).alloc (Nat.le_refl _) (.cells (dfcells kd (.slice (some ⟨w.heap.size, 0, none⟩) 1 1)).toArray 54)))
  have hl3 := hl2.below ((Below.refl _ _).alloc (Nat.le_refl _) (.cells (mdcells km (.slice none 0 0) (.slice (some ⟨w.heap.size + 1, 0, none⟩) 1 1)).toArray 58))
  generalize hW2 : ((w.alloc (.cells (nrow k2l).toArray 52)).alloc (.cells (dfcells kd (.slice (some ⟨w.heap.size, 0, none⟩) 1 1)).toArray 54)) = W2 at *
  have hbd : (W2.alloc (.cells (mdcells km (.slice none 0 0) (.slice (some ⟨w.heap.size + 1, 0, none⟩) 1 1)).toArray 58)).heap[w.heap.size + 1]? = some (.cells (dfcells kd (.slice (some ⟨w.heap.size, 0, none⟩) 1 1)).toArray 54 (0, 0)) := by
    rw [Below.heap_alloc _ _ _ (by omega)]
    exact hb1
  generalize hW3 : W2.alloc (.cells (mdcells km (.slice none 0 0) (.slice (some ⟨w.heap.size + 1, 0, none⟩) 1 1)).toArray 58) = W3 at *
  have hsz : W3.heap.size = w.heap.size + 1 + 1 + 1 := by rw [← hW3]; simp; omega
  refine .inr ⟨w.heap.size + 1 + 1, 0, 1, rfl, by decide, by omega, fun j x hx => ?_⟩
  obtain ⟨rfl, rfl⟩ : j = 0 ∧ x = km := by
    cases j with
    | zero => simpa using hx.symm
    | succ j => simp at hx
  refine ⟨_, ⟨.slice none 0 0, .slice (some ⟨w.heap.size + 1, 0, none⟩) 1 1, rfl, .inl ⟨rfl, _, _, rfl⟩, .inr ⟨w.heap.size + 1, 0, 1, rfl, by decide, by omega, fun j x hx => ?_⟩⟩, fun i u hu => ?_⟩
  · obtain ⟨rfl, rfl⟩ : j = 0 ∧ x = kd := by
      cases j with
      | zero => simpa [km] using hx.symm
      | succ j => simp [km] at hx
    refine ⟨_, ⟨.slice (some ⟨w.heap.size, 0, none⟩) 1 1, rfl, hl3⟩, fun i u hu => ?_⟩
    rw [(block_cells hbd).1]
    simpa using hu
  · rw [(block_cells hb2).1]
    simpa using hu
end Pn

set_option maxHeartbeats 4000000 in
theorem works7_any (w : World) (hT : Tab w) : Calls Tryz.prog 7 #[] w fun e w' => e = .returned (.bool true) ∧ Below w.heap.size w w' := by
  go_enter Tryz.func7, Tryz.ntmps7
  go_wp2_with fail
  generalize hW : w.alloc _ = W
  have hBW : Below w.heap.size w W := by rw [← hW]; exact (Below.refl _ _).alloc (Nat.le_refl _) _
  have hl1 : IsNodes W (.slice (some ⟨w.heap.size, 0, none⟩) 5 5) k1l := by rw [← hW]; exact nodes_lit w k1l 52 (0, 0) 5 (by decide)
  clear hW
  have hE1 := pnExpr_ok k1l k1_fits k1_held _ W hl1 (hT.below hBW) (by rw [k1_chk]) k1 k1_wf k1_flat
  rw [k1_pr] at hE1
  have hE1' : Calls Tryz.prog 9 #[.slice (some ⟨w.heap.size, 0, none⟩) 5 5] W fun e w' => e = .returned (.tuple #[.string ⟨#[49, 32, 45, 32, 40, 50, 32, 45, 32, 120, 41]⟩, .int .i64 0]) ∧ Below W.heap.size W w' := hE1
  refine hE1'.mono ?_
  rintro e w1 ⟨rfl, hB1⟩
  have HB1 : Aside (Below w.heap.size w w1) := hBW.trans (hB1.mono hBW.size)
  clear hE1 hE1' hl1 hB1 hBW
  go_wp2_with fail
  have hM := mods_lit w1
  have hBm : Below w1.heap.size w1 (((w1.alloc (.cells (nrow k2l).toArray 52)).alloc (.cells (dfcells kd (.slice (some ⟨w1.heap.size, 0, none⟩) 1 1)).toArray 54)).alloc (.cells (mdcells km (.slice none 0 0) (.slice (some ⟨w1.heap.size + 1, 0, none⟩) 1 1)).toArray 58)) := ((((Below.refl _ _).alloc (Nat.le_refl _) _).alloc (by simp) _).alloc (by simp; omega) _)
  have hMm := pnModules_ok [km] km_fits km_held _ _ hM (hT.below (HB1.out.trans (hBm.mono HB1.out.size))) km_mod
  rw [km_txt] at hMm
  have hMm' : Calls Tryz.prog 15 #[.slice (some ⟨w1.heap.size + 1 + 1, 0, none⟩) 1 1] (((w1.alloc (.cells (nrow k2l).toArray 52)).alloc (.cells (dfcells kd (.slice (some ⟨w1.heap.size, 0, none⟩) 1 1)).toArray 54)).alloc (.cells (mdcells km (.slice none 0 0) (.slice (some ⟨w1.heap.size + 1, 0, none⟩) 1 1)).toArray 58)) fun e w' => e = .returned (.tuple #[.string ⟨#[109, 111, 100, 117, 108, 101, 32, 109, 32, 123, 10, 32, 32, 108, 101, 116, 32, 120, 32, 58, 32, 105, 110, 116, 32, 61, 32, 48, 59, 10, 125, 10]⟩, .int .i64 0]) ∧ Below w1.heap.size w1 w' := hMm.mono fun e w' ⟨h1, h2⟩ => ⟨h1, hBm.trans (h2.mono hBm.size)⟩
  clear hMm hM hBm
  refine hMm'.mono ?_
  rintro e w2 ⟨rfl, hB2⟩
  have HB2 : Aside (Below w.heap.size w w2) := HB1.out.trans (hB2.mono HB1.out.size)
  clear hMm' hB2
  have hE3 := pnExpr_bad [] k0_fits (.slice none 0 0) w2 (.inl ⟨rfl, _, _, rfl⟩) (by rw [k0_chk]; decide)
  rw [k0_chk] at hE3
  have hE3' : Calls Tryz.prog 9 #[.slice none 0 0] w2 fun e w' => e = .returned (.tuple #[.string ⟨#[]⟩, .int .i64 17]) ∧ Below w2.heap.size w2 w' := hE3
  clear hE3
  go_wp2_with fail
  refine hE3'.mono ?_
  rintro e w3 ⟨rfl, hB3⟩
  have HB3 : Aside (Below w.heap.size w w3) := HB2.out.trans (hB3.mono HB2.out.size)
  clear hE3' hB3
  go_wp2_with fail
  go_ret
  exact ⟨rfl, HB3.out⟩
end Go.Proofs.YtpikfdkgblghhaaGreatDoor
