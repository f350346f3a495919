/- The one closed call that every statement of this layer makes first: it answers true. -/
import Derived.Test.YtkcehgpcimlamabGreatDoorFree
namespace Go.Proofs.YtkcehgpcimlamabGreatDoor
open Go.RowKit
set_option maxRecDepth 100000
set_option linter.unusedSimpArgs false

namespace Tr
mutual
theorem flat_inj : ∀ (t t' : T) (r r' : List Nd), wf t → wf t' → flat t ++ r = flat t' ++ r' → t = t' ∧ r = r'
  | .nd x ks, .nd y js, r, r', h, h', e => by
    rw [wf] at h h'
    simp only [flat, List.cons_append, List.cons.injEq] at e
    obtain ⟨rfl, e⟩ := e
    have hl : ks.length = js.length := by have := h.1.symm.trans h'.1; omega
    obtain ⟨rfl, rfl⟩ := flats_inj ks js r r' hl h.2 h'.2 e
    exact ⟨rfl, rfl⟩
theorem flats_inj : ∀ (ts ts' : List T) (r r' : List Nd), ts.length = ts'.length → wfs ts → wfs ts' → flats ts ++ r = flats ts' ++ r' → ts = ts' ∧ r = r'
  | [], [], r, r', _, _, _, e => ⟨rfl, by simpa [flats] using e⟩
  | [], _ :: _, _, _, h, _, _, _ => by simp at h
  | _ :: _, [], _, _, h, _, _, _ => by simp at h
  | t :: ts, t' :: ts', r, r', h, h1, h2, e => by
    rw [wfs] at h1 h2
    rw [flats, flats, List.append_assoc, List.append_assoc] at e
    obtain ⟨e1, e2⟩ := flat_inj t t' _ _ h1.1 h2.1 e
    subst e1
    obtain ⟨rfl, rfl⟩ := flats_inj ts ts' r r' (by simpa using h) h1.2 h2.2 e2
    exact ⟨rfl, rfl⟩
end
end Tr
theorem freeN_tree {t : Tr.T} (hw : Tr.wf t) (hc : (chkN (Tr.flat t)).1 = 0) {ns : List (List UInt8)} (h : freeN (Tr.flat t) ns) : ns = Tr.free t := by
  rcases h with ⟨h, _⟩ | ⟨t', _, hw', e, rfl⟩
  · exact absurd hc h
  · have := (Tr.flat_inj t t' [] [] hw hw' (by simpa using e)).1
    rw [this]
theorem freeN_no {l : List Tr.Nd} (hc : (chkN l).1 ≠ 0) {ns : List (List UInt8)} (h : freeN l ns) : ns = [] := by
  rcases h with ⟨_, h⟩ | ⟨t', h, _⟩
  · exact h
  · exact absurd h hc

/-- Nodes as cells, one behind the other. -/
def nrow (l : List Tr.Nd) : List Value := (l.map Tr.ncells).flatten
theorem nrow_cons (x : Tr.Nd) (l : List Tr.Nd) : nrow (x :: l) = Tr.ncells x ++ nrow l := rfl
theorem nrow_at : ∀ (l : List Tr.Nd) (j : Nat) (x : Tr.Nd), l[j]? = some x → ∀ i u, (Tr.ncells x)[i]? = some u → (nrow l)[j * 8 + i]? = some u
  | [], j, x, h, _, _, _ => by simp at h
  | y :: l, 0, x, h, i, u, hu => by
    simp at h; subst h
    have hi : i < (Tr.ncells y).length := (List.getElem?_eq_some_iff.1 hu).1
    rw [nrow_cons, Nat.zero_mul, Nat.zero_add, List.getElem?_append_left hi]; exact hu
  | y :: l, j + 1, x, h, i, u, hu => by
    rw [nrow_cons, List.getElem?_append_right (by simp [Tr.ncells]; omega)]
    have := nrow_at l j x (by simpa using h) i u hu
    rw [← this]
    congr 1
    simp [Tr.ncells]; omega
theorem nrow_len (l : List Tr.Nd) : (nrow l).length = l.length * 8 := by
  induction l with
  | nil => rfl
  | cons x l ih => rw [nrow_cons, List.length_append, ih, List.length_cons]; simp [Tr.ncells]; omega
/-- A list that is written out. -/
theorem IsNodes.lit (w : World) (l : List Tr.Nd) (t : TypeId) (fr : Nat × Nat) (cap : Nat) (hcap : l.length ≤ cap) : IsNodes (w.alloc (.cells (nrow l).toArray t fr)) (.slice (some ⟨w.heap.size, 0, none⟩) l.length cap) l := by
  refine .inr ⟨_, 0, cap, rfl, hcap, by simp, fun j x hx i u hu => ?_⟩
  rw [World.cell?_alloc_mark, List.getElem?_toArray, Nat.zero_add]
  exact nrow_at l j x hx i u hu

def nd (kind kids n : Int) (s t u : List UInt8) : Tr.Nd := ⟨kind, kids, n, S s, S t, S u, 0, 0⟩
def wk1 : List Tr.Nd := [nd 10 2 0 [] [] [], nd 1 0 1 [] [] [], nd 4 0 0 [120] [] []]
def wk2 : List Tr.Nd := [nd 16 1 0 [] [] [], nd 1 0 (-1) [] [] []]
def wkT : Tr.T := .nd (nd 10 2 0 [] [] []) [.nd (nd 1 0 1 [] [] []) [], .nd (nd 4 0 0 [120] [] []) []]
theorem wk1_chk : chkN wk1 = (0, 0) := by kernel_rfl
theorem wk2_chk : chkN wk2 = (18, 1) := by kernel_rfl
theorem wk1_kids : kidsN wk1 0 = [1, 2] := by kernel_rfl
theorem wk1_end : bhI wk1 0 = 3 := by kernel_rfl
theorem wk1_deep : deepN wk1 = 2 := by kernel_rfl
theorem wk1_like : likes wk1 wk1 = true := by kernel_rfl
theorem wkT_free : Tr.free wkT = [[120]] := by kernel_rfl
theorem wk1_fits : Fits wk1 := ⟨by decide, by intro x hx; simp [wk1] at hx; rcases hx with rfl | rfl | rfl <;> decide, by intro x hx; simp [wk1] at hx; rcases hx with rfl | rfl | rfl <;> decide⟩
theorem wk2_fits : Fits wk2 := ⟨by decide, by intro x hx; simp [wk2] at hx; rcases hx with rfl | rfl <;> decide, by intro x hx; simp [wk2] at hx; rcases hx with rfl | rfl <;> decide⟩
theorem wkT_wf : Tr.wf wkT := by simp [wkT, Tr.wf, Tr.wfs, nd]
theorem Low.lit {b o n c B : Nat} (h : b < B) : Low (.slice (some ⟨b, o, none⟩) n c) B := by
  intro b' o' n' c' e
  simp only [Value.slice.injEq, Option.some.injEq, Addr.mk.injEq] at e
  omega

set_option maxHeartbeats 4000000 in
theorem works_any (w : World) : Calls Tryz.prog 4 #[] w fun e w' => e = .returned (.bool true) ∧ Below w.heap.size w w' := by
  go_enter Tryz.func4, Tryz.ntmps4
  go_wp2_with fail
  generalize hW : w.alloc _ = W
  have hBW : Below w.heap.size w W := by rw [← hW]; exact balloc (Below.refl _ _) _
  have hl1 : IsNodes W (.slice (some ⟨w.heap.size, 0, none⟩) 3 3) wk1 := by rw [← hW]; exact IsNodes.lit w wk1 34 (0, 0) 3 (by decide)
  have hlt : w.heap.size < W.heap.size := by rw [← hW]; simp
  clear hW
  have hc1 := treeCheck_any wk1 wk1_fits _ W hl1
  rw [wk1_chk] at hc1
  refine hc1.mono ?_
  rintro e w1 ⟨rfl, hB1⟩
  have h1 := hl1.below hB1
  have hs1 := hB1.size
  have hki := kids_any wk1 wk1_fits (.slice (some ⟨w.heap.size, 0, none⟩) 3 3) 0 w1 h1
  rw [wk1_kids] at hki
  go_wp2_with (first | (go_at_call 12; refine (arity_any _ _).mono ?_; rintro e w' ⟨rfl, hw'⟩; replace hw' := hw'.symm; subst hw') | (go_at_call 13; refine hki.mono ?_; rintro e w2 ⟨kv, rfl, hkv, hB2⟩))
  have h2 := h1.below hB2
  have hs2 := hB2.size
  refine (free_any wk1 wk1_fits _ w2 h2 (Low.lit (by omega))).mono ?_
  rintro e w3 ⟨fv, ns, rfl, hfr, hfv, hB3⟩
  obtain rfl : ns = [[120]] := (freeN_tree (t := wkT) wkT_wf (by rw [show Tr.flat wkT = wk1 by kernel_rfl, wk1_chk]) hfr).trans wkT_free
  have h3 := h2.below hB3
  have hs3 := hB3.size
  obtain ⟨kg, kc, rfl, hkc, hkb, hkcell⟩ := own_cells (own_below hkv hB3) (by decide)
  obtain ⟨fg, fc, rfl, hfc, hfb, hfcell⟩ := own_cells hfv (by decide)
  have hk1 : w3.cell? ⟨kg, 1, none⟩ = some (.int .i64 2) := hkcell 1 (by decide)
  have hf0 : w3.cell? ⟨fg, 0, none⟩ = some (.string ⟨#[120]⟩) := hfcell 0 (by decide)
  have hkl := World.block_lt_of_cell? w3 _ hk1
  have hfl := World.block_lt_of_cell? w3 _ hf0
  clear hkcell hfcell hkv hfv hfr hki hc1
  go_wp2_with fail
  generalize hW4 : w3.alloc _ = W4
  have hBW4 : Below w3.heap.size w3 W4 := by rw [← hW4]; exact balloc (Below.refl _ _) _
  have hl4 : IsNodes W4 (.slice (some ⟨w3.heap.size, 0, none⟩) 2 2) wk2 := by rw [← hW4]; exact IsNodes.lit w3 wk2 34 (0, 0) 2 (by decide)
  clear hW4
  have hc4 := treeCheck_any wk2 wk2_fits _ W4 hl4
  rw [wk2_chk] at hc4
  refine hc4.mono ?_
  rintro e w5 ⟨rfl, hB5⟩
  have h5 := (h3.below hBW4).below hB5
  have hB35 : Below w3.heap.size w3 w5 := bt hBW4 hB5
  clear hc4 hl4
  have hbe := behind_any wk1 wk1_fits.len wk1_fits.kids (.slice (some ⟨w.heap.size, 0, none⟩) 3 3) 0 w5 h5
  rw [wk1_end] at hbe
  have hde := fun (w6 : World) (h : Below w5.heap.size w5 w6) => deep_any wk1 wk1_fits (.slice (some ⟨w.heap.size, 0, none⟩) 3 3) w6 (h5.below h)
  have heq := fun (w6 : World) (h : Below w5.heap.size w5 w6) => equal_any wk1 wk1 wk1_fits.len (.slice (some ⟨w.heap.size, 0, none⟩) 3 3) (.slice (some ⟨w.heap.size, 0, none⟩) 3 3) w6 (h5.below h) (h5.below h)
  rw [wk1_deep] at hde
  rw [wk1_like] at heq
  have hk5 : w5.cell? ⟨kg, 1, none⟩ = some (.int .i64 2) := (hB35.cell (p := ⟨kg, 1, none⟩) hkl).trans hk1
  have hf5 : w5.cell? ⟨fg, 0, none⟩ = some (.string ⟨#[120]⟩) := (hB35.cell (p := ⟨fg, 0, none⟩) hfl).trans hf0
  have hkl5 : kg < w5.heap.size := Nat.lt_of_lt_of_le hkl hB35.size
  have hfl5 : fg < w5.heap.size := Nat.lt_of_lt_of_le hfl hB35.size
  clear hk1 hf0
  go_wp2_with (first | (go_at_call 15; refine hbe.mono ?_; rintro e w6 ⟨rfl, hB6⟩) | (go_at_call 16; refine (hde _ hB6).mono ?_; rintro e w7 ⟨rfl, hB7⟩; have hB57 := bt hB6 hB7; have hk7 := (hB57.cell (p := ⟨kg, 1, none⟩) hkl5).trans hk5) | (go_at_call 17; refine (heq _ hB57).mono ?_; rintro e w8 ⟨rfl, hB8⟩; have hB58 := bt hB57 hB8; have hf8 := (hB58.cell (p := ⟨fg, 0, none⟩) hfl5).trans hf5))
  go_ret
  exact ⟨rfl, bt (bt (bt (bt (bt hBW hB1) hB2) hB3) hB35) hB58⟩
end Go.Proofs.YtkcehgpcimlamabGreatDoor
