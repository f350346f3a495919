/- What the program reads as a module. -/
import Derived.Test.YtohjfikjbeafiaaGreatDoorGau
import Derived.Test.YtohjfikjbeafiaaGreatDoorGas
namespace Go.Proofs.YtohjfikjbeafiaaGreatDoor
open Go.RowKit Ps
set_option maxRecDepth 100000
set_option linter.unusedSimpArgs false

/-- How a reading of a module ends. -/
def MdEnd (w : World) (pb : Nat) (L : List PT) (e : PT) (lm : Lim) (fm am : Value) : Rv (Mo × Nat) → Ending → World → Prop
  | .error j, e', w' => Threw w pb L e j e' w'
  | .ok ((m, n'), j, l), e', w' => ∃ vI vD D, e' = .returned (mov m vI vD) ∧ MoIn w' w.heap.size m vI vD D ∧ Prs w' pb L e j (effE lm l) fm am n' ∧ w.grownBy w' (some pb)
/-- The module's block, its two rows. -/
def mcs (x : PT) (vI vD : Value) : Array Value := #[.string (S x.s), vI, vD, .int .i64 x.ln, .int .i64 x.co]
theorem ims_err {L : List PT} {e : PT} {x : PT} {n j i : Nat} (h : imsR L e (L.length - j + 1) [] j = .error i) : moB L e x n j = .error i := by unfold moB; rw [h]
theorem dfs_err {L : List PT} {e : PT} {x : PT} {n j j1 i : Nat} {is : List Im} {l : List Ev} (h : imsR L e (L.length - j + 1) [] j = .ok (is, j1, l)) (h2 : dfsR L e is.length (L.length - j1 + 1) [] n j1 = .error i) : moB L e x n j = .error i := by unfold moB; rw [h]; simp only; rw [h2]
theorem mo_no {L : List PT} {e : PT} {x : PT} {n n' j j1 j2 : Nat} {is : List Im} {ds : List Df} {l l2 : List Ev} (h : imsR L e (L.length - j + 1) [] j = .ok (is, j1, l)) (h2 : dfsR L e is.length (L.length - j1 + 1) [] n j1 = .ok ((ds, n'), j2, l2)) (h3 : sg L j2 ≠ [125]) : moB L e x n j = .error j2 := by unfold moB; rw [h]; simp only; rw [h2]; simp only; rw [if_neg h3]
theorem mo_yes {L : List PT} {e : PT} {x : PT} {n n' j j1 j2 : Nat} {is : List Im} {ds : List Df} {l l2 : List Ev} (h : imsR L e (L.length - j + 1) [] j = .ok (is, j1, l)) (h2 : dfsR L e is.length (L.length - j1 + 1) [] n j1 = .ok ((ds, n'), j2, l2)) (h3 : sg L j2 = [125]) : moB L e x n j = .ok ((⟨x.s, is, ds, x.ln, x.co⟩, n'), j2 + 1, l ++ l2) := by unfold moB; rw [h]; simp only; rw [h2]; simp only; rw [if_pos h3]
/-- What holds where the next import is looked for. -/
structure InI (w : World) (pb : Nat) (L : List PT) (e : PT) (lm : Lim) (fm am : Value) (nd : Nat) (x : PT) (j0 MB : Nat) (d : Nat) (wr : World) (acc : List Im) (j : Nat) (l : List Ev) (vI : Value) : Prop where
  fuel : L.length - j + 1 ≤ d
  lo : j0 ≤ j
  hi : j ≤ L.length
  few : acc.length + j0 ≤ j
  eq : imsR L e (L.length - j0 + 1) [] j0 = preV l (imsR L e d acc j)
  prs : Prs wr pb L e j (effE lm l) fm am nd
  grown : w.grownBy wr (some pb)
  res : wr.heap[w.heap.size]? = some (.cells #[.string ⟨#[]⟩, .slice none 0 0, .slice none 0 0, .int .i64 0, .int .i64 0] 75 (0, 0))
  blk : wr.heap[MB]? = some (.cells (mcs x vI (.slice none 0 0)) 75 (0, 0))
  row : wr.ownsRow (MB + 1) 139 5 vI acc.length (imcs acc)
/-- What holds where the next def is looked for. -/
structure InD (w : World) (pb : Nat) (L : List PT) (e : PT) (lm : Lim) (fm am : Value) (nd : Nat) (x : PT) (j0 j1 MB : Nat) (is : List Im) (l1 : List Ev) (vI : Value) (d : Nat) (wr : World) (D : List (Df × Value)) (n j : Nat) (l : List Ev) (vD : Value) : Prop where
  fuel : L.length - j + 1 ≤ d
  lo : j1 ≤ j
  hi : j ≤ L.length
  few : D.length + j1 ≤ j
  cnt : n + j1 ≤ nd + j
  eq : dfsR L e is.length (L.length - j1 + 1) [] nd j1 = preV l (dfsR L e is.length d (D.map (·.1)) n j)
  prs : Prs wr pb L e j (effE lm (l1 ++ l)) fm am n
  grown : w.grownBy wr (some pb)
  res : wr.heap[w.heap.size]? = some (.cells #[.string ⟨#[]⟩, .slice none 0 0, .slice none 0 0, .int .i64 0, .int .i64 0] 75 (0, 0))
  blk : wr.heap[MB]? = some (.cells (mcs x vI vD) 75 (0, 0))
  rowI : wr.ownsRow (MB + 1) 139 5 vI is.length (imcs is)
  rowD : wr.ownsRow (MB + 1) 77 6 vD D.length (dfcs D)
  trees : Dfs wr (MB + 1) D
theorem mo_set {w : World} {MB : Nat} {x : PT} {vI vD u : Value} (h : w.heap[MB]? = some (.cells (mcs x vI vD) 75 (0, 0))) : (w.setCell ⟨MB, 1, none⟩ u).heap[MB]? = some (.cells (mcs x u vD) 75 (0, 0)) ∧ (w.setCell ⟨MB, 2, none⟩ u).heap[MB]? = some (.cells (mcs x vI u) 75 (0, 0)) := by
  constructor <;> simp [World.setCell, Array.getElem?_modify, h, mcs]
theorem Ps.Dfs.base {w : World} {base b2 : Nat} {D : List (Df × Value)} (h : Dfs w base D) (hb : b2 ≤ base) : Dfs w b2 D := ⟨fun p hp => own_base (h.own p hp) hb, h.ord⟩
theorem set_keep {w : World} {B b o : Nat} {u : Value} (h : b ≠ B) : (w.setCell ⟨B, o, none⟩ u).heap[b]? = w.heap[b]? := Below.heap_setCell _ _ _ _ (by simpa using h)

set_option maxHeartbeats 16000000 in
theorem module_any {w : World} {pb : Nat} {L : List PT} {e : PT} {k : Nat} {lm : Lim} {fm am : Value} {nd : Nat} (he : e.kind = 0) (hTS : ∀ j, (tok L e j).s.length ≤ 65536) (hnd : nd + (L.length - k) ≤ 200000) (hM : Mp w pb fm am) (h : Prs w pb L e k lm fm am nd) :
    Calls Tryz.prog 82 #[.pointer (some ⟨pb, 0, none⟩)] w (MdEnd w pb L e lm fm am (moR L e nd k)) := by
  have hlt := h.lt
  have hkl := h.at'
  have hlen := h.len
  obtain ⟨iI, hiI, hzI0, hzI1, hzI2⟩ := info_parts infoIm
  obtain ⟨iD, hiD, hzD0, hzD1, hzD2⟩ := info_parts infoDf
  go_enter Tryz.func82, Tryz.ntmps82
  have hBa1 : Below w.heap.size w (w.alloc (.cells #[.string ⟨#[]⟩, .slice none 0 0, .slice none 0 0, .int .i64 0, .int .i64 0] 75)) := (Below.refl _ _).alloc (Nat.le_refl _) _
  have PP1 := h.kept hBa1
  have GG1 : w.grownBy (w.alloc (.cells #[.string ⟨#[]⟩, .slice none 0 0, .slice none 0 0, .int .i64 0, .int .i64 0] 75)) (some pb) := grownBy_below (grownBy_refl w (some pb)) hBa1
  have hlB1 := h.lt
  have kp1 : (w.alloc (.cells #[.string ⟨#[]⟩, .slice none 0 0, .slice none 0 0, .int .i64 0, .int .i64 0] 75)).heap[w.heap.size]? = some (.cells #[.string ⟨#[]⟩, .slice none 0 0, .slice none 0 0, .int .i64 0, .int .i64 0] 75) := heap_alloc_new _ _
  have hz1 : (w.alloc (.cells #[.string ⟨#[]⟩, .slice none 0 0, .slice none 0 0, .int .i64 0, .int .i64 0] 75)).heap.size = w.heap.size + 1 := by simp
  clear hBa1
  by_cases hs2 : sg L k ≠ [109, 111, 100, 117, 108, 101]
  · have hq2 : expc L e [109, 111, 100, 117, 108, 101] k = .error k := by unfold expc; rw [if_neg hs2]
    have hc3 := pexpect_no PP1 he [109, 111, 100, 117, 108, 101] hs2
    have HX3 : Aside (moR L e nd k = .error k) := by
      show _ = _
      simp only [moR, moH, wModule, hq2, bnd]
    clear hq2 hs2
    go_wp2_with fail
    refine hc3.mono ?_
    rintro ee3 ww3 ⟨rfl, gg3⟩
    have GG3 := grownBy_trans GG1 gg3
    clear hc3 gg3
    go_wp2_with fail
    exact ⟨rfl, by rw [HX3.out]; exact ⟨rfl, GG3⟩⟩
  replace hs2 := Classical.not_not.1 hs2
  have Q2 : Aside (expc L e [109, 111, 100, 117, 108, 101] k = .ok (tok L e k, k + 1, [])) := by show _ = _; unfold expc; rw [if_pos hs2]
  have hk2 := sg_lt hs2
  have HS2 : Aside (sg L k = [109, 111, 100, 117, 108, 101]) := hs2
  clear hs2
  have hc4 := pexpect_yes PP1 he 109 [111, 100, 117, 108, 101] HS2.out
  go_wp2_with fail
  refine hc4.mono ?_
  rintro ee4 ww4 ⟨rfl, PP4, gg4⟩
  have kb4_0 := (gg4.block w.heap.size (Array.getElem?_eq_some_iff.1 kp1).1 (by simp; omega)).trans kp1
  have GG4 := grownBy_trans GG1 gg4
  have hl4 := PP4.lt
  have hw4 : w.heap.size ≤ ww4.heap.size := GG4.size
  clear hc4 gg4
  by_cases hs5 : kd L (k + 1) ≠ 2
  · have hq5 : nam L e (k + 1) = .error (k + 1) := by unfold nam; rw [if_neg hs5]
    have hc6 := pname_no PP4 he hs5
    have HX6 : Aside (moR L e nd k = .error (k + 1)) := by
      show _ = _
      simp only [moR, moH, wModule, Q2.out, hq5, bnd]
    clear hq5 hs5
    go_wp2_with fail
    refine hc6.mono ?_
    rintro ee6 ww6 ⟨rfl, gg6⟩
    have GG6 := grownBy_trans GG4 gg6
    clear hc6 gg6
    go_wp2_with fail
    exact ⟨rfl, by rw [HX6.out]; exact ⟨rfl, GG6⟩⟩
  replace hs5 := Classical.not_not.1 hs5
  have Q5 : Aside (nam L e (k + 1) = .ok (tok L e (k + 1), (k + 1) + 1, [])) := by show _ = _; unfold nam; rw [if_pos hs5]
  have hk5 := (nam_lt Q5.out).2
  have HS5 : Aside (kd L (k + 1) = 2) := hs5
  clear hs5
  have hc7 := pname_yes PP4 he HS5.out
  go_wp2_with fail
  refine hc7.mono ?_
  rintro ee7 ww7 ⟨rfl, PP7, gg7⟩
  have kb7_0 := (gg7.block w.heap.size (Array.getElem?_eq_some_iff.1 kb4_0).1 (by simp; omega)).trans kb4_0
  have GG7 := grownBy_trans GG4 gg7
  have hl7 := PP7.lt
  have hw7 : w.heap.size ≤ ww7.heap.size := GG7.size
  clear hc7 gg7
  unfold tagg
  have hBa8 : Below ww7.heap.size ww7 (ww7.alloc (.cells #[.int .i8 (tok L e (k + 1)).kind, .int .i64 (tok L e (k + 1)).n, .string (S (tok L e (k + 1)).s), .int .i64 (tok L e (k + 1)).ln, .int .i64 (tok L e (k + 1)).co] 194)) := (Below.refl _ _).alloc (Nat.le_refl _) _
  have PP8 := PP7.kept hBa8
  have GG8 : w.grownBy (ww7.alloc (.cells #[.int .i8 (tok L e (k + 1)).kind, .int .i64 (tok L e (k + 1)).n, .string (S (tok L e (k + 1)).s), .int .i64 (tok L e (k + 1)).ln, .int .i64 (tok L e (k + 1)).co] 194)) (some pb) := grownBy_below GG7 hBa8
  have kb8_0 := (hBa8.block w.heap.size (Array.getElem?_eq_some_iff.1 kb7_0).1).trans kb7_0
  have hlB8 := PP7.lt
  have kp8 : (ww7.alloc (.cells #[.int .i8 (tok L e (k + 1)).kind, .int .i64 (tok L e (k + 1)).n, .string (S (tok L e (k + 1)).s), .int .i64 (tok L e (k + 1)).ln, .int .i64 (tok L e (k + 1)).co] 194)).heap[ww7.heap.size]? = some (.cells #[.int .i8 (tok L e (k + 1)).kind, .int .i64 (tok L e (k + 1)).n, .string (S (tok L e (k + 1)).s), .int .i64 (tok L e (k + 1)).ln, .int .i64 (tok L e (k + 1)).co] 194) := heap_alloc_new _ _
  have hz8 : (ww7.alloc (.cells #[.int .i8 (tok L e (k + 1)).kind, .int .i64 (tok L e (k + 1)).n, .string (S (tok L e (k + 1)).s), .int .i64 (tok L e (k + 1)).ln, .int .i64 (tok L e (k + 1)).co] 194)).heap.size = ww7.heap.size + 1 := by simp
  clear hBa8
  have x2 : (ww7.alloc (.cells #[.int .i8 (tok L e (k + 1)).kind, .int .i64 (tok L e (k + 1)).n, .string (S (tok L e (k + 1)).s), .int .i64 (tok L e (k + 1)).ln, .int .i64 (tok L e (k + 1)).co] 194)).cell? ⟨ww7.heap.size, 2, none⟩ = some (.string (S (tok L e (k + 1)).s)) := (block_cells (w := (ww7.alloc (.cells #[.int .i8 (tok L e (k + 1)).kind, .int .i64 (tok L e (k + 1)).n, .string (S (tok L e (k + 1)).s), .int .i64 (tok L e (k + 1)).ln, .int .i64 (tok L e (k + 1)).co] 194))) kp8).1 2
  have x3 : (ww7.alloc (.cells #[.int .i8 (tok L e (k + 1)).kind, .int .i64 (tok L e (k + 1)).n, .string (S (tok L e (k + 1)).s), .int .i64 (tok L e (k + 1)).ln, .int .i64 (tok L e (k + 1)).co] 194)).cell? ⟨ww7.heap.size, 3, none⟩ = some (.int .i64 (tok L e (k + 1)).ln) := (block_cells (w := (ww7.alloc (.cells #[.int .i8 (tok L e (k + 1)).kind, .int .i64 (tok L e (k + 1)).n, .string (S (tok L e (k + 1)).s), .int .i64 (tok L e (k + 1)).ln, .int .i64 (tok L e (k + 1)).co] 194))) kp8).1 3
  have x4 : (ww7.alloc (.cells #[.int .i8 (tok L e (k + 1)).kind, .int .i64 (tok L e (k + 1)).n, .string (S (tok L e (k + 1)).s), .int .i64 (tok L e (k + 1)).ln, .int .i64 (tok L e (k + 1)).co] 194)).cell? ⟨ww7.heap.size, 4, none⟩ = some (.int .i64 (tok L e (k + 1)).co) := (block_cells (w := (ww7.alloc (.cells #[.int .i8 (tok L e (k + 1)).kind, .int .i64 (tok L e (k + 1)).n, .string (S (tok L e (k + 1)).s), .int .i64 (tok L e (k + 1)).ln, .int .i64 (tok L e (k + 1)).co] 194))) kp8).1 4
  have hBa9 : Below (ww7.alloc (.cells #[.int .i8 (tok L e (k + 1)).kind, .int .i64 (tok L e (k + 1)).n, .string (S (tok L e (k + 1)).s), .int .i64 (tok L e (k + 1)).ln, .int .i64 (tok L e (k + 1)).co] 194)).heap.size (ww7.alloc (.cells #[.int .i8 (tok L e (k + 1)).kind, .int .i64 (tok L e (k + 1)).n, .string (S (tok L e (k + 1)).s), .int .i64 (tok L e (k + 1)).ln, .int .i64 (tok L e (k + 1)).co] 194)) ((ww7.alloc (.cells #[.int .i8 (tok L e (k + 1)).kind, .int .i64 (tok L e (k + 1)).n, .string (S (tok L e (k + 1)).s), .int .i64 (tok L e (k + 1)).ln, .int .i64 (tok L e (k + 1)).co] 194)).alloc (.cells #[.string (S (tok L e (k + 1)).s), .slice none 0 0, .slice none 0 0, .int .i64 (tok L e (k + 1)).ln, .int .i64 (tok L e (k + 1)).co] 75)) := (Below.refl _ _).alloc (Nat.le_refl _) _
  have PP9 := PP8.kept hBa9
  have GG9 : w.grownBy ((ww7.alloc (.cells #[.int .i8 (tok L e (k + 1)).kind, .int .i64 (tok L e (k + 1)).n, .string (S (tok L e (k + 1)).s), .int .i64 (tok L e (k + 1)).ln, .int .i64 (tok L e (k + 1)).co] 194)).alloc (.cells #[.string (S (tok L e (k + 1)).s), .slice none 0 0, .slice none 0 0, .int .i64 (tok L e (k + 1)).ln, .int .i64 (tok L e (k + 1)).co] 75)) (some pb) := grownBy_below GG8 hBa9
  have kb9_0 := (hBa9.block w.heap.size (Array.getElem?_eq_some_iff.1 kb8_0).1).trans kb8_0
  have kb9_1 := (hBa9.block ww7.heap.size (Array.getElem?_eq_some_iff.1 kp8).1).trans kp8
  have hlB9 := PP8.lt
  have kp9 : ((ww7.alloc (.cells #[.int .i8 (tok L e (k + 1)).kind, .int .i64 (tok L e (k + 1)).n, .string (S (tok L e (k + 1)).s), .int .i64 (tok L e (k + 1)).ln, .int .i64 (tok L e (k + 1)).co] 194)).alloc (.cells #[.string (S (tok L e (k + 1)).s), .slice none 0 0, .slice none 0 0, .int .i64 (tok L e (k + 1)).ln, .int .i64 (tok L e (k + 1)).co] 75)).heap[(ww7.alloc (.cells #[.int .i8 (tok L e (k + 1)).kind, .int .i64 (tok L e (k + 1)).n, .string (S (tok L e (k + 1)).s), .int .i64 (tok L e (k + 1)).ln, .int .i64 (tok L e (k + 1)).co] 194)).heap.size]? = some (.cells #[.string (S (tok L e (k + 1)).s), .slice none 0 0, .slice none 0 0, .int .i64 (tok L e (k + 1)).ln, .int .i64 (tok L e (k + 1)).co] 75) := heap_alloc_new _ _
  have hz9 : ((ww7.alloc (.cells #[.int .i8 (tok L e (k + 1)).kind, .int .i64 (tok L e (k + 1)).n, .string (S (tok L e (k + 1)).s), .int .i64 (tok L e (k + 1)).ln, .int .i64 (tok L e (k + 1)).co] 194)).alloc (.cells #[.string (S (tok L e (k + 1)).s), .slice none 0 0, .slice none 0 0, .int .i64 (tok L e (k + 1)).ln, .int .i64 (tok L e (k + 1)).co] 75)).heap.size = (ww7.alloc (.cells #[.int .i8 (tok L e (k + 1)).kind, .int .i64 (tok L e (k + 1)).n, .string (S (tok L e (k + 1)).s), .int .i64 (tok L e (k + 1)).ln, .int .i64 (tok L e (k + 1)).co] 194)).heap.size + 1 := by simp
  clear hBa9
  by_cases hs10 : sg L ((k + 1) + 1) ≠ [123]
  · have hq10 : expc L e [123] ((k + 1) + 1) = .error ((k + 1) + 1) := by unfold expc; rw [if_neg hs10]
    have hc11 := pexpect_no PP9 he [123] hs10
    have HX11 : Aside (moR L e nd k = .error ((k + 1) + 1)) := by
      show _ = _
      simp only [moR, moH, wModule, Q2.out, Q5.out, hq10, bnd]
    clear hq10 hs10
    go_wp2_with fail
    refine hc11.mono ?_
    rintro ee11 ww11 ⟨rfl, gg11⟩
    have GG11 := grownBy_trans GG9 gg11
    clear hc11 gg11
    go_wp2_with fail
    exact ⟨rfl, by rw [HX11.out]; exact ⟨rfl, GG11⟩⟩
  replace hs10 := Classical.not_not.1 hs10
  have Q10 : Aside (expc L e [123] ((k + 1) + 1) = .ok (tok L e ((k + 1) + 1), ((k + 1) + 1) + 1, [])) := by show _ = _; unfold expc; rw [if_pos hs10]
  have hk10 := sg_lt hs10
  have HS10 : Aside (sg L ((k + 1) + 1) = [123]) := hs10
  clear hs10
  have hc12 := pexpect_yes PP9 he 123 [] HS10.out
  go_wp2_with fail
  refine hc12.mono ?_
  rintro ee12 ww12 ⟨rfl, PP12, gg12⟩
  have kb12_0 := (gg12.block w.heap.size (Array.getElem?_eq_some_iff.1 kb9_0).1 (by simp; omega)).trans kb9_0
  have kb12_1 := (gg12.block ww7.heap.size (Array.getElem?_eq_some_iff.1 kb9_1).1 (by simp; omega)).trans kb9_1
  have kb12_2 := (gg12.block (ww7.alloc (.cells #[.int .i8 (tok L e (k + 1)).kind, .int .i64 (tok L e (k + 1)).n, .string (S (tok L e (k + 1)).s), .int .i64 (tok L e (k + 1)).ln, .int .i64 (tok L e (k + 1)).co] 194)).heap.size (Array.getElem?_eq_some_iff.1 kp9).1 (by simp; omega)).trans kp9
  have GG12 := grownBy_trans GG9 gg12
  have hl12 := PP12.lt
  have hw12 : w.heap.size ≤ ww12.heap.size := GG12.size
  clear hc12 gg12
  go_wp2_with fail
  have HR : Aside (moR L e nd k = moB L e (tok L e (k + 1)) nd (((k + 1) + 1) + 1)) := by
    show _ = _
    simp only [moR, moH, wModule, Q2.out, Q5.out, Q10.out, bnd, List.nil_append, List.append_nil]
  clear Q2 Q5 Q10
  have kM : ww12.heap[(ww7.alloc (.cells #[.int .i8 (tok L e (k + 1)).kind, .int .i64 (tok L e (k + 1)).n, .string (S (tok L e (k + 1)).s), .int .i64 (tok L e (k + 1)).ln, .int .i64 (tok L e (k + 1)).co] 194)).heap.size]? = some (.cells (mcs (tok L e (k + 1)) (.slice none 0 0) (.slice none 0 0)) 75 (0, 0)) := kb12_2
  have kR := kb12_0
  have hMw : w.heap.size < (ww7.alloc (.cells #[.int .i8 (tok L e (k + 1)).kind, .int .i64 (tok L e (k + 1)).n, .string (S (tok L e (k + 1)).s), .int .i64 (tok L e (k + 1)).ln, .int .i64 (tok L e (k + 1)).co] 194)).heap.size := by have := (Array.getElem?_eq_some_iff.1 kR).1; omega
  have hMl : (ww7.alloc (.cells #[.int .i8 (tok L e (k + 1)).kind, .int .i64 (tok L e (k + 1)).n, .string (S (tok L e (k + 1)).s), .int .i64 (tok L e (k + 1)).ln, .int .i64 (tok L e (k + 1)).co] 194)).heap.size < ww12.heap.size := (Array.getElem?_eq_some_iff.1 kM).1
  have HP : Aside (Prs ww12 pb L e (((k + 1) + 1) + 1) lm fm am nd) := PP12
  have HG : Aside (w.grownBy ww12 (some pb)) := GG12
  have hj0 : k ≤ (((k + 1) + 1) + 1) ∧ (((k + 1) + 1) + 1) ≤ L.length := ⟨by omega, by omega⟩
  rw [hz8] at kM hMw hMl
  generalize hMBe : ww7.heap.size + 1 = MB at *
  generalize hJe : (((k + 1) + 1) + 1) = j0 at *
  generalize hXe : (tok L e (k + 1)) = x at *
  clear hMBe hJe hXe
  go_loopg [] (L.length - j0 + 1) (fun d wr => ∃ acc j l vI, InI w pb L e lm fm am nd x j0 MB d wr acc j l vI)
  case atStart => exact ⟨[], j0, [], .slice none 0 0, ⟨Nat.le_refl _, Nat.le_refl _, hj0.2, by simp, by rw [preV_nil], HP.out, HG.out, kR, kM, own_nil _ _ _ _⟩⟩
  case round =>
    clear kM kR HP HG hMl
    obtain ⟨acc, j, l, vI, hI⟩ := hrel
    have PP0 := hI.prs
    have GG0 := hI.grown
    have hfu := hI.fuel
    have hlo := hI.lo
    have hhi := hI.hi
    have hfw := hI.few
    have hrw := hI.row
    have kbR := hI.res
    have kbM := hI.blk
    obtain ⟨va, vc, rfl⟩ := own_len hrw
    have HE : Aside (imsR L e (L.length - j0 + 1) [] j0 = preV l (imsR L e gk acc j)) := hI.eq
    clear hI
    have hMl : MB < wr.heap.size := (Array.getElem?_eq_some_iff.1 kbM).1
    obtain ⟨d2, rfl⟩ : ∃ d2, gk = d2 + 1 := ⟨gk - 1, by omega⟩
    by_cases hsI : sg L j = wImport
    · skip
      have hq1 : ((S (sg L j)).toList == [105, 109, 112, 111, 114, 116]) = true := by rw [beq_SL]; simpa using hsI
      have hkj := sg_lt hsI
      have hsi113 := psign_any PP0 he
      go_wp2_with fail
      refine hsi113.mono ?_
      rintro ee113 ww113 ⟨rfl, nn113, rfl⟩
      have hBs113 : Below wr.heap.size wr (wr.drewN nn113) := ⟨rfl, rfl, rfl, Nat.le_refl _, fun _ _ => rfl⟩
      have PP113 := PP0.drewN nn113
      have GG113 : w.grownBy (wr.drewN nn113) (some pb) := grownBy_drewN GG0 nn113
      have kb113_0 := (hBs113.block w.heap.size (Array.getElem?_eq_some_iff.1 kbR).1).trans kbR
      have kb113_1 := (hBs113.block MB (Array.getElem?_eq_some_iff.1 kbM).1).trans kbM
      have ro113_0 := own_below hrw hBs113
      clear hsi113 hBs113
      rcases hri : imR L e j with ji | ⟨im, ji, li⟩
      · have hc115 := importing_any he PP113
        rw [hri] at hc115
        have HX115 : Aside (moR L e nd k = .error ji) := by
          show _ = _
          rw [HR.out]
          exact ims_err (by rw [HE.out, imsR, if_pos hsI, hri]; rfl)
        clear hri hsI
        go_wp2_with fail
        refine hc115.mono ?_
        rintro ee115 ww115 ⟨rfl, gg115⟩
        have GG115 := grownBy_trans GG113 gg115
        clear hc115 gg115
        go_wp2_with fail
        exact ⟨rfl, by rw [HX115.out]; exact ⟨rfl, GG115⟩⟩
      have hin := imR_in hri
      have HE2 : Aside (imsR L e (L.length - j0 + 1) [] j0 = preV (l ++ (lgE L e li ++ if 64 < acc.length + 1 then [(2, (im.ln, im.co))] else [])) (imsR L e d2 (acc ++ [im]) ji)) := by
        show _ = _
        rw [HE.out, imsR, if_pos hsI, hri]
        simp only
        rw [preV_pre]
      have hcI := importing_any he PP113
      rw [hri] at hcI
      clear hri hsI HE
      go_wp2_with fail
      refine hcI.mono ?_
      rintro ee116 ww116 ⟨rfl, PP116, gg116⟩
      have kb116_0 := (gg116.block w.heap.size (Array.getElem?_eq_some_iff.1 kb113_0).1 (by simp; omega)).trans kb113_0
      have kb116_1 := (gg116.block MB (Array.getElem?_eq_some_iff.1 kb113_1).1 (by simp; omega)).trans kb113_1
      have ro116_0 := ro113_0.kept gg116 (.inr fun e => by have := (ro113_0.lt _ e).1; omega)
      have GG116 := grownBy_trans GG113 gg116
      have hl116 := PP116.lt
      have hw116 : w.heap.size ≤ ww116.heap.size := GG116.size
      clear hcI gg116
      unfold imv
      have hTM : ww116.heap.size ≠ MB := by have := (Array.getElem?_eq_some_iff.1 kb116_1).1; omega
      have hBa117 : Below ww116.heap.size ww116 (ww116.alloc (.cells #[.string (S im.src), .string (S im.name), .string (S im.t), .int .i64 im.ln, .int .i64 im.co] 139)) := (Below.refl _ _).alloc (Nat.le_refl _) _
      have PP117 := PP116.kept hBa117
      have GG117 : w.grownBy (ww116.alloc (.cells #[.string (S im.src), .string (S im.name), .string (S im.t), .int .i64 im.ln, .int .i64 im.co] 139)) (some pb) := grownBy_below GG116 hBa117
      have kb117_0 := (hBa117.block w.heap.size (Array.getElem?_eq_some_iff.1 kb116_0).1).trans kb116_0
      have kb117_1 := (hBa117.block MB (Array.getElem?_eq_some_iff.1 kb116_1).1).trans kb116_1
      have ro117_0 := own_below ro116_0 hBa117
      have hlB117 := PP116.lt
      have kp117 : (ww116.alloc (.cells #[.string (S im.src), .string (S im.name), .string (S im.t), .int .i64 im.ln, .int .i64 im.co] 139)).heap[ww116.heap.size]? = some (.cells #[.string (S im.src), .string (S im.name), .string (S im.t), .int .i64 im.ln, .int .i64 im.co] 139) := heap_alloc_new _ _
      have hz117 : (ww116.alloc (.cells #[.string (S im.src), .string (S im.name), .string (S im.t), .int .i64 im.ln, .int .i64 im.co] 139)).heap.size = ww116.heap.size + 1 := by simp
      clear hBa117
      have m1 : (ww116.alloc (.cells #[.string (S im.src), .string (S im.name), .string (S im.t), .int .i64 im.ln, .int .i64 im.co] 139)).cell? ⟨MB, 1, none⟩ = some (.slice va acc.length vc) := (block_cells (w := (ww116.alloc (.cells #[.string (S im.src), .string (S im.name), .string (S im.t), .int .i64 im.ln, .int .i64 im.co] 139))) kb117_1).1 1
      have t0 : (ww116.alloc (.cells #[.string (S im.src), .string (S im.name), .string (S im.t), .int .i64 im.ln, .int .i64 im.co] 139)).cell? ⟨ww116.heap.size, 0, none⟩ = some (.string (S im.src)) := (block_cells (w := (ww116.alloc (.cells #[.string (S im.src), .string (S im.name), .string (S im.t), .int .i64 im.ln, .int .i64 im.co] 139))) kp117).1 0
      have t1 : (ww116.alloc (.cells #[.string (S im.src), .string (S im.name), .string (S im.t), .int .i64 im.ln, .int .i64 im.co] 139)).cell? ⟨ww116.heap.size, 1, none⟩ = some (.string (S im.name)) := (block_cells (w := (ww116.alloc (.cells #[.string (S im.src), .string (S im.name), .string (S im.t), .int .i64 im.ln, .int .i64 im.co] 139))) kp117).1 1
      have t2 : (ww116.alloc (.cells #[.string (S im.src), .string (S im.name), .string (S im.t), .int .i64 im.ln, .int .i64 im.co] 139)).cell? ⟨ww116.heap.size, 2, none⟩ = some (.string (S im.t)) := (block_cells (w := (ww116.alloc (.cells #[.string (S im.src), .string (S im.name), .string (S im.t), .int .i64 im.ln, .int .i64 im.co] 139))) kp117).1 2
      have t3 : (ww116.alloc (.cells #[.string (S im.src), .string (S im.name), .string (S im.t), .int .i64 im.ln, .int .i64 im.co] 139)).cell? ⟨ww116.heap.size, 3, none⟩ = some (.int .i64 im.ln) := (block_cells (w := (ww116.alloc (.cells #[.string (S im.src), .string (S im.name), .string (S im.t), .int .i64 im.ln, .int .i64 im.co] 139))) kp117).1 3
      have t4 : (ww116.alloc (.cells #[.string (S im.src), .string (S im.name), .string (S im.t), .int .i64 im.ln, .int .i64 im.co] 139)).cell? ⟨ww116.heap.size, 4, none⟩ = some (.int .i64 im.co) := (block_cells (w := (ww116.alloc (.cells #[.string (S im.src), .string (S im.name), .string (S im.t), .int .i64 im.ln, .int .i64 im.co] 139))) kp117).1 4
      have hBq : Below (ww116.alloc (.cells #[.string (S im.src), .string (S im.name), .string (S im.t), .int .i64 im.ln, .int .i64 im.co] 139)).heap.size (ww116.alloc (.cells #[.string (S im.src), .string (S im.name), .string (S im.t), .int .i64 im.ln, .int .i64 im.co] 139)) ((ww116.alloc (.cells #[.string (S im.src), .string (S im.name), .string (S im.t), .int .i64 im.ln, .int .i64 im.co] 139)).alloc (.cells (imcs [im]).toArray 139)) := (Below.refl _ _).alloc (Nat.le_refl _) _
      have hMl2 : MB + 1 ≤ (ww116.alloc (.cells #[.string (S im.src), .string (S im.name), .string (S im.t), .int .i64 im.ln, .int .i64 im.co] 139)).heap.size := by have := (Array.getElem?_eq_some_iff.1 kb117_1).1; omega
      have hTl2 : ww116.heap.size < (ww116.alloc (.cells #[.string (S im.src), .string (S im.name), .string (S im.t), .int .i64 im.ln, .int .i64 im.co] 139)).heap.size := (Array.getElem?_eq_some_iff.1 kp117).1
      have hfr := (block_cells (w := (ww116.alloc (.cells #[.string (S im.src), .string (S im.name), .string (S im.t), .int .i64 im.ln, .int .i64 im.co] 139))) kb117_1).2
      have hcn := cells_list_new (ww116.alloc (.cells #[.string (S im.src), .string (S im.name), .string (S im.t), .int .i64 im.ln, .int .i64 im.co] 139)) (imcs [im]) 139
      rw [hz117] at hcn
      have HQ : Aside (∀ v7 w7, w7.ownsRow (MB + 1) 139 5 v7 (acc.length + 1) (imcs acc ++ imcs [im]) → ((ww116.alloc (.cells #[.string (S im.src), .string (S im.name), .string (S im.t), .int .i64 im.ln, .int .i64 im.co] 139)).alloc (.cells (imcs [im]).toArray 139)).grownBy w7 (Value.slice va acc.length vc).ownBlock → Prs w7 pb L e ji (eff L e (effE lm l) li) fm am nd ∧ w.grownBy w7 (some pb) ∧ w7.heap[w.heap.size]? = some (.cells #[.string ⟨#[]⟩, .slice none 0 0, .slice none 0 0, .int .i64 0, .int .i64 0] 75 (0, 0)) ∧ w7.heap[MB]? = some (.cells (mcs x (.slice va acc.length vc) (.slice none 0 0)) 75 (0, 0)) ∧ w7.heap[ww116.heap.size]? = some (.cells #[.string (S im.src), .string (S im.name), .string (S im.t), .int .i64 im.ln, .int .i64 im.co] 139)) := by
        intro v7 w7 _ hg
        have hlow : ∀ g, (Value.slice va acc.length vc).ownBlock = some g → MB + 1 ≤ g := fun g hg => (ro117_0.lt g hg).1
        have hnT : ∀ g, (Value.slice va acc.length vc).ownBlock = some g → g < ww116.heap.size := fun g hg => (ro116_0.lt g hg).2
        have hwq : (ww116.alloc (.cells #[.string (S im.src), .string (S im.name), .string (S im.t), .int .i64 im.ln, .int .i64 im.co] 139)).heap.size ≤ w7.heap.size := by have := hg.size; simp at this; omega
        refine ⟨(PP117.kept hBq).rowed hg hlow (by omega), row_any (grownBy_below GG117 hBq) hg hlow (by omega), ?_, ?_, ?_⟩
        · exact (hg.block _ (by simp; omega) (fun e => by have := hlow _ e.symm; omega)).trans ((hBq.block _ (by omega)).trans kb117_0)
        · exact (hg.block _ (by simp; omega) (fun e => by have := hlow _ e.symm; omega)).trans ((hBq.block _ (by omega)).trans kb117_1)
        · exact (hg.block _ (by simp; omega) (fun e => by have := hnT _ e.symm; omega)).trans ((hBq.block _ hTl2).trans kp117)
      go_wp2_with (at_builtin; go_must (refine wpList_append_own _ rfl _ _ 72 rfl (MB + 1) 139 iI _ 5 64 tyIms hiI hzI0 hzI1 hzI2 rfl (by decide) (.slice va acc.length vc) _ _ rfl (ro117_0.alloc _) ⟨ww116.heap.size + 1, 0, none⟩ 1 1 (imcs [im]) rfl rfl hcn (im1_one im) (by unfold maxLen; omega) (by omega) (by simp; omega) ?_); intro v7 w7 hown7 hg7 _; obtain ⟨P7, G7, kR7, kM7, kT7⟩ := HQ.out v7 w7 hown7 hg7; have f7 := (block_cells kM7).2; have m7 : w7.cell? ⟨MB, 1, none⟩ = some (.slice va acc.length vc) := (block_cells kM7).1 1; have n0 : w7.cell? ⟨MB, 0, none⟩ = some (.string (S x.s)) := (block_cells kM7).1 0; have n2 : w7.cell? ⟨MB, 2, none⟩ = some (.slice none 0 0) := (block_cells kM7).1 2; have n3 : w7.cell? ⟨MB, 3, none⟩ = some (.int .i64 x.ln) := (block_cells kM7).1 3; have n4 : w7.cell? ⟨MB, 4, none⟩ = some (.int .i64 x.co) := (block_cells kM7).1 4; have t3 : w7.cell? ⟨ww116.heap.size, 3, none⟩ = some (.int .i64 im.ln) := (block_cells kT7).1 3; have t4 : w7.cell? ⟨ww116.heap.size, 4, none⟩ = some (.int .i64 im.co) := (block_cells kT7).1 4; obtain ⟨va7, vc7, rfl⟩ := own_len hown7; clear HQ hg7)
      have K8 := (mo_set (u := .slice va7 (acc.length + 1) vc7) kM7).1
      have R8 := (set_keep (w := w7) (B := MB) (b := w.heap.size) (o := 1) (u := .slice va7 (acc.length + 1) vc7) (by omega)).trans kR7
      have P8 := P7.set (b := MB) (o := 1) (u := .slice va7 (acc.length + 1) vc7) (by omega)
      have gs8 : w7.grownBy (w7.setCell ⟨MB, 1, none⟩ (.slice va7 (acc.length + 1) vc7)) (some MB) := grownBy_set (grownBy_refl w7 _) _
      have G8 : w.grownBy (w7.setCell ⟨MB, 1, none⟩ (.slice va7 (acc.length + 1) vc7)) (some pb) := grownBy_high G7 gs8 (fun y e => by cases e; omega)
      have O8 := hown7.kept gs8 (.inr fun e => by have := (hown7.lt _ e).1; omega)
      rw [← imcs_app] at O8
      rw [eff_lg, ← effE_app] at P8
      have hcW := weigh_any P8 (S x.s) va7 none (acc.length + 1) vc7 0 0 x.ln x.co im.ln im.co (by omega)
      have hM8 := (Array.getElem?_eq_some_iff.1 K8).1
      have hM9 := (Array.getElem?_eq_some_iff.1 R8).1
      clear hBq m1 hown7 gs8
      go_wp2_with fail
      refine hcW.mono ?_
      rintro ee9 w9 ⟨rfl, P9, g9⟩
      have K9 := (g9.block MB hM8 (by simp; omega)).trans K8
      have R9 := (g9.block w.heap.size hM9 (by simp; omega)).trans R8
      have O9 := O8.kept g9 (.inr fun e => by have := (O8.lt _ e).1; omega)
      have G9 := grownBy_trans G8 g9
      rw [← effE_app, Nat.add_zero] at P9
      clear hcW g9 P8 O8 K8 R8
      go_wp2_with fail
      go_roundg d2
      case measure => omega
      case rel => exact ⟨acc ++ [im], ji, _, _, ⟨by omega, by omega, hin.2, by simp; omega, HE2.out, by simpa [List.append_assoc] using P9, G9, R9, K9, by simpa using O9⟩⟩
    · skip
      have hq1 : ((S (sg L j)).toList == [105, 109, 112, 111, 114, 116]) = false := by rw [beq_SL]; simpa using hsI
      have HI : Aside (imsR L e (L.length - j0 + 1) [] j0 = .ok (acc, j, l)) := by
        show _ = _
        rw [HE.out, imsR, if_neg hsI]
        simp [preV]
      clear hsI HE
      have hsi118 := psign_any PP0 he
      go_wp2_with fail
      refine hsi118.mono ?_
      rintro ee118 ww118 ⟨rfl, nn118, rfl⟩
      have hBs118 : Below wr.heap.size wr (wr.drewN nn118) := ⟨rfl, rfl, rfl, Nat.le_refl _, fun _ _ => rfl⟩
      have PP118 := PP0.drewN nn118
      have GG118 : w.grownBy (wr.drewN nn118) (some pb) := grownBy_drewN GG0 nn118
      have kb118_0 := (hBs118.block w.heap.size (Array.getElem?_eq_some_iff.1 kbR).1).trans kbR
      have kb118_1 := (hBs118.block MB (Array.getElem?_eq_some_iff.1 kbM).1).trans kbM
      have ro118_0 := own_below hrw hBs118
      clear hsi118 hBs118
      go_wp2_with fail
      have HP1 : Aside (Prs (wr.drewN nn118) pb L e j (effE lm l) fm am nd) := PP118
      have HG1 : Aside (w.grownBy (wr.drewN nn118) (some pb)) := GG118
      have kR1 := kb118_0
      have kM1 := kb118_1
      have rI1 := ro118_0
      generalize hVI : Value.slice va acc.length vc = vI at *
      clear hVI
      go_loopg [] (L.length - j + 1) (fun d wq => ∃ D n i m vD, InD w pb L e lm fm am nd x j0 j MB acc l vI d wq D n i m vD)
      case atStart => exact ⟨[], nd, j, [], .slice none 0 0, ⟨Nat.le_refl _, Nat.le_refl _, hhi, by simp, by omega, by rw [preV_nil]; rfl, by rw [List.append_nil]; exact HP1.out, HG1.out, kR1, kM1, rI1, own_nil _ _ _ _, Dfs.nil _ _⟩⟩
      case round =>
        skip
        clear kR1 kM1 rI1 HP1 HG1 kbR kbM hrw
        obtain ⟨D, n, i, m, vD, hI⟩ := hrel
        have PP0 := hI.prs
        have GG0 := hI.grown
        have hfu2 := hI.fuel
        have hlo2 := hI.lo
        have hhi2 := hI.hi
        have hfw2 := hI.few
        have hct := hI.cnt
        have rwI := hI.rowI
        have rwD := hI.rowD
        have trs := hI.trees
        have kbR := hI.res
        have kbM := hI.blk
        obtain ⟨va, vc, rfl⟩ := own_len rwD
        have HE : Aside (dfsR L e acc.length (L.length - j + 1) [] nd j = preV m (dfsR L e acc.length gk (D.map (·.1)) n i)) := hI.eq
        clear hI
        have hMl : MB < wr.heap.size := (Array.getElem?_eq_some_iff.1 kbM).1
        obtain ⟨d2, rfl⟩ : ∃ d2, gk = d2 + 1 := ⟨gk - 1, by omega⟩
        by_cases hsX : sg L i = wExport
        · skip
          have HC : Aside (sg L i = wExport ∨ sg L i = wLet) := .inl hsX
          have hkj := sg_lt hsX
          have hq1 : ((S (sg L i)).toList == [101, 120, 112, 111, 114, 116]) = true := by rw [beq_SL]; simpa using hsX
          clear hsX
          have hsi119 := psign_any PP0 he
          go_wp2_with fail
          refine hsi119.mono ?_
          rintro ee119 ww119 ⟨rfl, nn119, rfl⟩
          have hBs119 : Below wr.heap.size wr (wr.drewN nn119) := ⟨rfl, rfl, rfl, Nat.le_refl _, fun _ _ => rfl⟩
          have PP119 := PP0.drewN nn119
          have GG119 : w.grownBy (wr.drewN nn119) (some pb) := grownBy_drewN GG0 nn119
          have kb119_0 := (hBs119.block w.heap.size (Array.getElem?_eq_some_iff.1 kbR).1).trans kbR
          have kb119_1 := (hBs119.block MB (Array.getElem?_eq_some_iff.1 kbM).1).trans kbM
          have ro119_0 := own_below rwI hBs119
          have ro119_1 := own_below rwD hBs119
          clear hsi119 hBs119
          have trs119 : Dfs (wr.drewN nn119) (MB + 1) D := trs.stay ⟨rfl, rfl, rfl, Nat.le_refl _, fun _ _ => rfl⟩
          have hcD := def_any he hTS (by omega) (hM.grown GG119) PP119
          rcases hri : dfR L e n i with ji | ⟨⟨df, n2⟩, ji, li⟩
          · rw [hri] at hcD
            have HX120 : Aside (moR L e nd k = .error ji) := by
              show _ = _
              rw [HR.out]
              exact dfs_err HI.out (by rw [HE.out, dfsR, if_pos HC.out, hri]; rfl)
            clear hri HC
            go_wp2_with fail
            refine hcD.mono ?_
            rintro ee120 ww120 ⟨rfl, gg120⟩
            have GG120 := grownBy_trans GG119 gg120
            clear hcD gg120
            go_wp2_with fail
            exact ⟨rfl, by rw [HX120.out]; exact ⟨rfl, GG120⟩⟩
          have hin := dfR_in hri
          have HE2 : Aside (dfsR L e acc.length (L.length - j + 1) [] nd j = preV (m ++ (li ++ if 64 < acc.length + (D.length + 1) then [(2, (df.ln, df.co))] else [])) (dfsR L e acc.length d2 (D.map (·.1) ++ [df]) n2 ji)) := by
            show _ = _
            rw [HE.out, dfsR, if_pos HC.out, hri]
            simp only
            rw [preV_pre, List.length_map]
          rw [hri] at hcD
          clear hri HC HE
          go_wp2_with fail
          refine hcD.mono ?_
          rintro ee121 ww121 ⟨vt, rfl, hvt, PP121, gg121⟩
          have kb121_0 := (gg121.block w.heap.size (Array.getElem?_eq_some_iff.1 kb119_0).1 (by simp; omega)).trans kb119_0
          have kb121_1 := (gg121.block MB (Array.getElem?_eq_some_iff.1 kb119_1).1 (by simp; omega)).trans kb119_1
          have ro121_0 := ro119_0.kept gg121 (.inr fun e => by have := (ro119_0.lt _ e).1; omega)
          have ro121_1 := ro119_1.kept gg121 (.inr fun e => by have := (ro119_1.lt _ e).1; omega)
          have tr121 := trs119.low gg121 (by omega)
          have hvl : ∀ p ∈ D, ∀ b, p.2.ownBlock = some b → b < (wr.drewN nn119).heap.size := fun p hp b hb => (trs119.lt p hp b hb).2
          have hW0 : MB < (wr.drewN nn119).heap.size := by show MB < wr.heap.size; exact hMl
          have GG121 := grownBy_trans GG119 gg121
          have hl121 := PP121.lt
          have hw121 : w.heap.size ≤ ww121.heap.size := GG121.size
          have hwz121 : (wr.drewN nn119).heap.size ≤ ww121.heap.size := gg121.size
          clear hcD gg121
          unfold dfv
          obtain ⟨ta, tc, rfl⟩ := own_len hvt
          have ts0 := tr121.snoc hvt (by omega) hvl
          have hTM : ww121.heap.size ≠ MB := by have := (Array.getElem?_eq_some_iff.1 kb121_1).1; omega
          have hBa122 : Below ww121.heap.size ww121 (ww121.alloc (.cells #[.string (S df.name), .bool df.ex, .string (S df.t), .slice ta df.ls.length tc, .int .i64 df.ln, .int .i64 df.co] 77)) := (Below.refl _ _).alloc (Nat.le_refl _) _
          have PP122 := PP121.kept hBa122
          have GG122 : w.grownBy (ww121.alloc (.cells #[.string (S df.name), .bool df.ex, .string (S df.t), .slice ta df.ls.length tc, .int .i64 df.ln, .int .i64 df.co] 77)) (some pb) := grownBy_below GG121 hBa122
          have kb122_0 := (hBa122.block w.heap.size (Array.getElem?_eq_some_iff.1 kb121_0).1).trans kb121_0
          have kb122_1 := (hBa122.block MB (Array.getElem?_eq_some_iff.1 kb121_1).1).trans kb121_1
          have ro122_0 := own_below ro121_0 hBa122
          have ro122_1 := own_below ro121_1 hBa122
          have hlB122 := PP121.lt
          have kp122 : (ww121.alloc (.cells #[.string (S df.name), .bool df.ex, .string (S df.t), .slice ta df.ls.length tc, .int .i64 df.ln, .int .i64 df.co] 77)).heap[ww121.heap.size]? = some (.cells #[.string (S df.name), .bool df.ex, .string (S df.t), .slice ta df.ls.length tc, .int .i64 df.ln, .int .i64 df.co] 77) := heap_alloc_new _ _
          have hz122 : (ww121.alloc (.cells #[.string (S df.name), .bool df.ex, .string (S df.t), .slice ta df.ls.length tc, .int .i64 df.ln, .int .i64 df.co] 77)).heap.size = ww121.heap.size + 1 := by simp
          clear hBa122
          have ts1 : Dfs (ww121.alloc (.cells #[.string (S df.name), .bool df.ex, .string (S df.t), .slice ta df.ls.length tc, .int .i64 df.ln, .int .i64 df.co] 77)) (MB + 1) (D ++ [(df, .slice ta df.ls.length tc)]) := ts0.stay ((Below.refl _ _).alloc (Nat.le_refl _) _)
          have m2 : (ww121.alloc (.cells #[.string (S df.name), .bool df.ex, .string (S df.t), .slice ta df.ls.length tc, .int .i64 df.ln, .int .i64 df.co] 77)).cell? ⟨MB, 2, none⟩ = some (.slice va D.length vc) := (block_cells (w := (ww121.alloc (.cells #[.string (S df.name), .bool df.ex, .string (S df.t), .slice ta df.ls.length tc, .int .i64 df.ln, .int .i64 df.co] 77))) kb122_1).1 2
          have t0 : (ww121.alloc (.cells #[.string (S df.name), .bool df.ex, .string (S df.t), .slice ta df.ls.length tc, .int .i64 df.ln, .int .i64 df.co] 77)).cell? ⟨ww121.heap.size, 0, none⟩ = some (.string (S df.name)) := (block_cells (w := (ww121.alloc (.cells #[.string (S df.name), .bool df.ex, .string (S df.t), .slice ta df.ls.length tc, .int .i64 df.ln, .int .i64 df.co] 77))) kp122).1 0
          have t1 : (ww121.alloc (.cells #[.string (S df.name), .bool df.ex, .string (S df.t), .slice ta df.ls.length tc, .int .i64 df.ln, .int .i64 df.co] 77)).cell? ⟨ww121.heap.size, 1, none⟩ = some (.bool df.ex) := (block_cells (w := (ww121.alloc (.cells #[.string (S df.name), .bool df.ex, .string (S df.t), .slice ta df.ls.length tc, .int .i64 df.ln, .int .i64 df.co] 77))) kp122).1 1
          have t2 : (ww121.alloc (.cells #[.string (S df.name), .bool df.ex, .string (S df.t), .slice ta df.ls.length tc, .int .i64 df.ln, .int .i64 df.co] 77)).cell? ⟨ww121.heap.size, 2, none⟩ = some (.string (S df.t)) := (block_cells (w := (ww121.alloc (.cells #[.string (S df.name), .bool df.ex, .string (S df.t), .slice ta df.ls.length tc, .int .i64 df.ln, .int .i64 df.co] 77))) kp122).1 2
          have t3 : (ww121.alloc (.cells #[.string (S df.name), .bool df.ex, .string (S df.t), .slice ta df.ls.length tc, .int .i64 df.ln, .int .i64 df.co] 77)).cell? ⟨ww121.heap.size, 3, none⟩ = some (.slice ta df.ls.length tc) := (block_cells (w := (ww121.alloc (.cells #[.string (S df.name), .bool df.ex, .string (S df.t), .slice ta df.ls.length tc, .int .i64 df.ln, .int .i64 df.co] 77))) kp122).1 3
          have t4 : (ww121.alloc (.cells #[.string (S df.name), .bool df.ex, .string (S df.t), .slice ta df.ls.length tc, .int .i64 df.ln, .int .i64 df.co] 77)).cell? ⟨ww121.heap.size, 4, none⟩ = some (.int .i64 df.ln) := (block_cells (w := (ww121.alloc (.cells #[.string (S df.name), .bool df.ex, .string (S df.t), .slice ta df.ls.length tc, .int .i64 df.ln, .int .i64 df.co] 77))) kp122).1 4
          have t5 : (ww121.alloc (.cells #[.string (S df.name), .bool df.ex, .string (S df.t), .slice ta df.ls.length tc, .int .i64 df.ln, .int .i64 df.co] 77)).cell? ⟨ww121.heap.size, 5, none⟩ = some (.int .i64 df.co) := (block_cells (w := (ww121.alloc (.cells #[.string (S df.name), .bool df.ex, .string (S df.t), .slice ta df.ls.length tc, .int .i64 df.ln, .int .i64 df.co] 77))) kp122).1 5
          have hBq : Below (ww121.alloc (.cells #[.string (S df.name), .bool df.ex, .string (S df.t), .slice ta df.ls.length tc, .int .i64 df.ln, .int .i64 df.co] 77)).heap.size (ww121.alloc (.cells #[.string (S df.name), .bool df.ex, .string (S df.t), .slice ta df.ls.length tc, .int .i64 df.ln, .int .i64 df.co] 77)) ((ww121.alloc (.cells #[.string (S df.name), .bool df.ex, .string (S df.t), .slice ta df.ls.length tc, .int .i64 df.ln, .int .i64 df.co] 77)).alloc (.cells (dfcs [(df, Value.slice ta df.ls.length tc)]).toArray 77)) := (Below.refl _ _).alloc (Nat.le_refl _) _
          have hMl2 : MB + 1 ≤ (ww121.alloc (.cells #[.string (S df.name), .bool df.ex, .string (S df.t), .slice ta df.ls.length tc, .int .i64 df.ln, .int .i64 df.co] 77)).heap.size := by have := (Array.getElem?_eq_some_iff.1 kb122_1).1; omega
          have hTl2 : ww121.heap.size < (ww121.alloc (.cells #[.string (S df.name), .bool df.ex, .string (S df.t), .slice ta df.ls.length tc, .int .i64 df.ln, .int .i64 df.co] 77)).heap.size := (Array.getElem?_eq_some_iff.1 kp122).1
          have hcn := cells_list_new (ww121.alloc (.cells #[.string (S df.name), .bool df.ex, .string (S df.t), .slice ta df.ls.length tc, .int .i64 df.ln, .int .i64 df.co] 77)) (dfcs [(df, Value.slice ta df.ls.length tc)]) 77
          rw [hz122] at hcn
          have HQ : Aside (∀ v7 w7, w7.ownsRow (MB + 1) 77 6 v7 (D.length + 1) (dfcs D ++ (dfcs [(df, Value.slice ta df.ls.length tc)])) → ((ww121.alloc (.cells #[.string (S df.name), .bool df.ex, .string (S df.t), .slice ta df.ls.length tc, .int .i64 df.ln, .int .i64 df.co] 77)).alloc (.cells (dfcs [(df, Value.slice ta df.ls.length tc)]).toArray 77)).grownBy w7 (Value.slice va D.length vc).ownBlock → Prs w7 pb L e ji (effE (effE lm (l ++ m)) li) fm am n2 ∧ w.grownBy w7 (some pb) ∧ w7.heap[w.heap.size]? = some (.cells #[.string ⟨#[]⟩, .slice none 0 0, .slice none 0 0, .int .i64 0, .int .i64 0] 75 (0, 0)) ∧ w7.heap[MB]? = some (.cells (mcs x vI (.slice va D.length vc)) 75 (0, 0)) ∧ w7.heap[ww121.heap.size]? = some (.cells #[.string (S df.name), .bool df.ex, .string (S df.t), .slice ta df.ls.length tc, .int .i64 df.ln, .int .i64 df.co] 77) ∧ w7.ownsRow (MB + 1) 139 5 vI acc.length (imcs acc) ∧ Dfs w7 (MB + 1) (D ++ [(df, .slice ta df.ls.length tc)])) := by
            intro v7 w7 _ hg
            have hlow : ∀ g, (Value.slice va D.length vc).ownBlock = some g → MB + 1 ≤ g := fun g hg => (ro122_1.lt g hg).1
            have hnT : ∀ g, (Value.slice va D.length vc).ownBlock = some g → g < ww121.heap.size := fun g hg => (ro121_1.lt g hg).2
            refine ⟨(PP122.kept hBq).rowed hg hlow (by omega), row_any (grownBy_below GG122 hBq) hg hlow (by omega), ?_, ?_, ?_, ?_, ?_⟩
            · exact (hg.block _ (by simp; omega) (fun e => by have := hlow _ e.symm; omega)).trans ((hBq.block _ (by omega)).trans kb122_0)
            · exact (hg.block _ (by simp; omega) (fun e => by have := hlow _ e.symm; omega)).trans ((hBq.block _ (by omega)).trans kb122_1)
            · exact (hg.block _ (by simp; omega) (fun e => by have := hnT _ e.symm; omega)).trans ((hBq.block _ hTl2).trans kp122)
            · exact (own_below ro122_0 hBq).kept hg (own_ne (own_below ro122_0 hBq) (own_below ro122_1 hBq) (by decide))
            · exact (ts1.stay hBq).kept hg fun p hp => own_ne ((ts1.stay hBq).own p hp) (own_below ro122_1 hBq) (by decide)
          go_wp2_with (at_builtin; go_must (refine wpList_append_own _ rfl _ _ 73 rfl (MB + 1) 77 iD _ 6 80 tyDfs hiD hzD0 hzD1 hzD2 rfl (by decide) (.slice va D.length vc) _ _ rfl (ro122_1.alloc _) ⟨ww121.heap.size + 1, 0, none⟩ 1 1 (dfcs [(df, Value.slice ta df.ls.length tc)]) rfl rfl hcn (df1_one df ta df.ls.length tc) (by unfold maxLen; omega) (by omega) (by simp; omega) ?_); intro v7 w7 hown7 hg7 _; obtain ⟨P7, G7, kR7, kM7, kT7, rI7, ts7⟩ := HQ.out v7 w7 hown7 hg7; have f7 := (block_cells kM7).2; have m7 : w7.cell? ⟨MB, 2, none⟩ = some (.slice va D.length vc) := (block_cells kM7).1 2; have n0 : w7.cell? ⟨MB, 0, none⟩ = some (.string (S x.s)) := (block_cells kM7).1 0; have n1 : w7.cell? ⟨MB, 1, none⟩ = some vI := (block_cells kM7).1 1; have n3 : w7.cell? ⟨MB, 3, none⟩ = some (.int .i64 x.ln) := (block_cells kM7).1 3; have n4 : w7.cell? ⟨MB, 4, none⟩ = some (.int .i64 x.co) := (block_cells kM7).1 4; have t4 : w7.cell? ⟨ww121.heap.size, 4, none⟩ = some (.int .i64 df.ln) := (block_cells kT7).1 4; have t5 : w7.cell? ⟨ww121.heap.size, 5, none⟩ = some (.int .i64 df.co) := (block_cells kT7).1 5; obtain ⟨va7, vc7, rfl⟩ := own_len hown7; clear HQ hg7)
          obtain ⟨ia, ic, rfl⟩ := own_len rI7
          have K8 := (mo_set (u := (.slice va7 (D.length + 1) vc7)) kM7).2
          have R8 := (set_keep (w := w7) (B := MB) (b := w.heap.size) (o := 2) (u := (.slice va7 (D.length + 1) vc7)) (by omega)).trans kR7
          have P8 := P7.set (b := MB) (o := 2) (u := (.slice va7 (D.length + 1) vc7)) (by omega)
          have gs8 : w7.grownBy (w7.setCell ⟨MB, 2, none⟩ (.slice va7 (D.length + 1) vc7)) (some MB) := grownBy_set (grownBy_refl w7 _) _
          have G8 : w.grownBy (w7.setCell ⟨MB, 2, none⟩ (.slice va7 (D.length + 1) vc7)) (some pb) := grownBy_high G7 gs8 (fun y e => by cases e; omega)
          have O8 := hown7.kept gs8 (.inr fun e => by have := (hown7.lt _ e).1; omega)
          have I8 := rI7.kept gs8 (.inr fun e => by have := (rI7.lt _ e).1; omega)
          have T8 := ts7.low gs8 (by omega)
          rw [← dfcs_app] at O8
          rw [← effE_app] at P8
          have hcW := weigh_any P8 (S x.s) ia va7 acc.length ic (D.length + 1) vc7 x.ln x.co df.ln df.co (by omega)
          have hM8 := (Array.getElem?_eq_some_iff.1 K8).1
          have hM9 := (Array.getElem?_eq_some_iff.1 R8).1
          clear hBq m2 hown7 gs8 ts7 rI7
          go_wp2_with fail
          refine hcW.mono ?_
          rintro ee9 w9 ⟨rfl, P9, g9⟩
          have K9 := (g9.block MB hM8 (by simp; omega)).trans K8
          have R9 := (g9.block w.heap.size hM9 (by simp; omega)).trans R8
          have O9 := O8.kept g9 (.inr fun e => by have := (O8.lt _ e).1; omega)
          have I9 := I8.kept g9 (.inr fun e => by have := (I8.lt _ e).1; omega)
          have T9 := T8.low g9 (by omega)
          have G9 := grownBy_trans G8 g9
          rw [← effE_app] at P9
          clear hcW g9 P8 O8 K8 R8 I8 T8
          go_wp2_with fail
          go_roundg d2
          case measure => omega
          case rel => exact ⟨D ++ [(df, .slice ta df.ls.length tc)], n2, ji, _, _, ⟨by omega, by omega, hin.2.1, by simp; omega, by omega, by rw [List.map_append]; exact HE2.out, by simpa [List.append_assoc] using P9, G9, R9, K9, I9, by simpa using O9, T9⟩⟩
        by_cases hsL : sg L i = wLet
        · skip
          have HC : Aside (sg L i = wExport ∨ sg L i = wLet) := .inr hsL
          have hkj := sg_lt hsL
          have hq1 : ((S (sg L i)).toList == [101, 120, 112, 111, 114, 116]) = false := by rw [beq_SL]; simpa using hsX
          have hq2 : ((S (sg L i)).toList == [108, 101, 116]) = true := by rw [beq_SL]; simpa using hsL
          clear hsX hsL
          have hsi123 := psign_any PP0 he
          go_wp2_with fail
          refine hsi123.mono ?_
          rintro ee123 ww123 ⟨rfl, nn123, rfl⟩
          have hBs123 : Below wr.heap.size wr (wr.drewN nn123) := ⟨rfl, rfl, rfl, Nat.le_refl _, fun _ _ => rfl⟩
          have PP123 := PP0.drewN nn123
          have GG123 : w.grownBy (wr.drewN nn123) (some pb) := grownBy_drewN GG0 nn123
          have kb123_0 := (hBs123.block w.heap.size (Array.getElem?_eq_some_iff.1 kbR).1).trans kbR
          have kb123_1 := (hBs123.block MB (Array.getElem?_eq_some_iff.1 kbM).1).trans kbM
          have ro123_0 := own_below rwI hBs123
          have ro123_1 := own_below rwD hBs123
          clear hsi123 hBs123
          have trs123 : Dfs (wr.drewN nn123) (MB + 1) D := trs.stay ⟨rfl, rfl, rfl, Nat.le_refl _, fun _ _ => rfl⟩
          have hsi124 := psign_any PP123 he
          go_wp2_with fail
          refine hsi124.mono ?_
          rintro ee124 ww124 ⟨rfl, nn124, rfl⟩
          have hBs124 : Below wr.heap.size wr (wr.drewN (nn123 + nn124)) := ⟨rfl, rfl, rfl, Nat.le_refl _, fun _ _ => rfl⟩
          have PP124 := PP0.drewN (nn123 + nn124)
          have GG124 : w.grownBy (wr.drewN (nn123 + nn124)) (some pb) := grownBy_drewN GG0 (nn123 + nn124)
          have kb124_0 := (hBs124.block w.heap.size (Array.getElem?_eq_some_iff.1 kbR).1).trans kbR
          have kb124_1 := (hBs124.block MB (Array.getElem?_eq_some_iff.1 kbM).1).trans kbM
          have ro124_0 := own_below rwI hBs124
          have ro124_1 := own_below rwD hBs124
          clear hsi124 hBs124
          have trs124 : Dfs (wr.drewN (nn123 + nn124)) (MB + 1) D := trs.stay ⟨rfl, rfl, rfl, Nat.le_refl _, fun _ _ => rfl⟩
          have hcD := def_any he hTS (by omega) (hM.grown GG124) PP124
          rcases hri : dfR L e n i with ji | ⟨⟨df, n2⟩, ji, li⟩
          · rw [hri] at hcD
            have HX125 : Aside (moR L e nd k = .error ji) := by
              show _ = _
              rw [HR.out]
              exact dfs_err HI.out (by rw [HE.out, dfsR, if_pos HC.out, hri]; rfl)
            clear hri HC
            go_wp2_with fail
            refine hcD.mono ?_
            rintro ee125 ww125 ⟨rfl, gg125⟩
            have GG125 := grownBy_trans GG124 gg125
            clear hcD gg125
            go_wp2_with fail
            exact ⟨rfl, by rw [HX125.out]; exact ⟨rfl, GG125⟩⟩
          have hin := dfR_in hri
          have HE2 : Aside (dfsR L e acc.length (L.length - j + 1) [] nd j = preV (m ++ (li ++ if 64 < acc.length + (D.length + 1) then [(2, (df.ln, df.co))] else [])) (dfsR L e acc.length d2 (D.map (·.1) ++ [df]) n2 ji)) := by
            show _ = _
            rw [HE.out, dfsR, if_pos HC.out, hri]
            simp only
            rw [preV_pre, List.length_map]
          rw [hri] at hcD
          clear hri HC HE
          go_wp2_with fail
          refine hcD.mono ?_
          rintro ee126 ww126 ⟨vt, rfl, hvt, PP126, gg126⟩
          have kb126_0 := (gg126.block w.heap.size (Array.getElem?_eq_some_iff.1 kb124_0).1 (by simp; omega)).trans kb124_0
          have kb126_1 := (gg126.block MB (Array.getElem?_eq_some_iff.1 kb124_1).1 (by simp; omega)).trans kb124_1
          have ro126_0 := ro124_0.kept gg126 (.inr fun e => by have := (ro124_0.lt _ e).1; omega)
          have ro126_1 := ro124_1.kept gg126 (.inr fun e => by have := (ro124_1.lt _ e).1; omega)
          have tr126 := trs124.low gg126 (by omega)
          have hvl : ∀ p ∈ D, ∀ b, p.2.ownBlock = some b → b < (wr.drewN (nn123 + nn124)).heap.size := fun p hp b hb => (trs124.lt p hp b hb).2
          have hW0 : MB < (wr.drewN (nn123 + nn124)).heap.size := by show MB < wr.heap.size; exact hMl
          have GG126 := grownBy_trans GG124 gg126
          have hl126 := PP126.lt
          have hw126 : w.heap.size ≤ ww126.heap.size := GG126.size
          have hwz126 : (wr.drewN (nn123 + nn124)).heap.size ≤ ww126.heap.size := gg126.size
          clear hcD gg126
          unfold dfv
          obtain ⟨ta, tc, rfl⟩ := own_len hvt
          have ts0 := tr126.snoc hvt (by omega) hvl
          have hTM : ww126.heap.size ≠ MB := by have := (Array.getElem?_eq_some_iff.1 kb126_1).1; omega
          have hBa127 : Below ww126.heap.size ww126 (ww126.alloc (.cells #[.string (S df.name), .bool df.ex, .string (S df.t), .slice ta df.ls.length tc, .int .i64 df.ln, .int .i64 df.co] 77)) := (Below.refl _ _).alloc (Nat.le_refl _) _
          have PP127 := PP126.kept hBa127
          have GG127 : w.grownBy (ww126.alloc (.cells #[.string (S df.name), .bool df.ex, .string (S df.t), .slice ta df.ls.length tc, .int .i64 df.ln, .int .i64 df.co] 77)) (some pb) := grownBy_below GG126 hBa127
          have kb127_0 := (hBa127.block w.heap.size (Array.getElem?_eq_some_iff.1 kb126_0).1).trans kb126_0
          have kb127_1 := (hBa127.block MB (Array.getElem?_eq_some_iff.1 kb126_1).1).trans kb126_1
          have ro127_0 := own_below ro126_0 hBa127
          have ro127_1 := own_below ro126_1 hBa127
          have hlB127 := PP126.lt
          have kp127 : (ww126.alloc (.cells #[.string (S df.name), .bool df.ex, .string (S df.t), .slice ta df.ls.length tc, .int .i64 df.ln, .int .i64 df.co] 77)).heap[ww126.heap.size]? = some (.cells #[.string (S df.name), .bool df.ex, .string (S df.t), .slice ta df.ls.length tc, .int .i64 df.ln, .int .i64 df.co] 77) := heap_alloc_new _ _
          have hz127 : (ww126.alloc (.cells #[.string (S df.name), .bool df.ex, .string (S df.t), .slice ta df.ls.length tc, .int .i64 df.ln, .int .i64 df.co] 77)).heap.size = ww126.heap.size + 1 := by simp
          clear hBa127
          have ts1 : Dfs (ww126.alloc (.cells #[.string (S df.name), .bool df.ex, .string (S df.t), .slice ta df.ls.length tc, .int .i64 df.ln, .int .i64 df.co] 77)) (MB + 1) (D ++ [(df, .slice ta df.ls.length tc)]) := ts0.stay ((Below.refl _ _).alloc (Nat.le_refl _) _)
          have m2 : (ww126.alloc (.cells #[.string (S df.name), .bool df.ex, .string (S df.t), .slice ta df.ls.length tc, .int .i64 df.ln, .int .i64 df.co] 77)).cell? ⟨MB, 2, none⟩ = some (.slice va D.length vc) := (block_cells (w := (ww126.alloc (.cells #[.string (S df.name), .bool df.ex, .string (S df.t), .slice ta df.ls.length tc, .int .i64 df.ln, .int .i64 df.co] 77))) kb127_1).1 2
          have t0 : (ww126.alloc (.cells #[.string (S df.name), .bool df.ex, .string (S df.t), .slice ta df.ls.length tc, .int .i64 df.ln, .int .i64 df.co] 77)).cell? ⟨ww126.heap.size, 0, none⟩ = some (.string (S df.name)) := (block_cells (w := (ww126.alloc (.cells #[.string (S df.name), .bool df.ex, .string (S df.t), .slice ta df.ls.length tc, .int .i64 df.ln, .int .i64 df.co] 77))) kp127).1 0
          have t1 : (ww126.alloc (.cells #[.string (S df.name), .bool df.ex, .string (S df.t), .slice ta df.ls.length tc, .int .i64 df.ln, .int .i64 df.co] 77)).cell? ⟨ww126.heap.size, 1, none⟩ = some (.bool df.ex) := (block_cells (w := (ww126.alloc (.cells #[.string (S df.name), .bool df.ex, .string (S df.t), .slice ta df.ls.length tc, .int .i64 df.ln, .int .i64 df.co] 77))) kp127).1 1
          have t2 : (ww126.alloc (.cells #[.string (S df.name), .bool df.ex, .string (S df.t), .slice ta df.ls.length tc, .int .i64 df.ln, .int .i64 df.co] 77)).cell? ⟨ww126.heap.size, 2, none⟩ = some (.string (S df.t)) := (block_cells (w := (ww126.alloc (.cells #[.string (S df.name), .bool df.ex, .string (S df.t), .slice ta df.ls.length tc, .int .i64 df.ln, .int .i64 df.co] 77))) kp127).1 2
          have t3 : (ww126.alloc (.cells #[.string (S df.name), .bool df.ex, .string (S df.t), .slice ta df.ls.length tc, .int .i64 df.ln, .int .i64 df.co] 77)).cell? ⟨ww126.heap.size, 3, none⟩ = some (.slice ta df.ls.length tc) := (block_cells (w := (ww126.alloc (.cells #[.string (S df.name), .bool df.ex, .string (S df.t), .slice ta df.ls.length tc, .int .i64 df.ln, .int .i64 df.co] 77))) kp127).1 3
          have t4 : (ww126.alloc (.cells #[.string (S df.name), .bool df.ex, .string (S df.t), .slice ta df.ls.length tc, .int .i64 df.ln, .int .i64 df.co] 77)).cell? ⟨ww126.heap.size, 4, none⟩ = some (.int .i64 df.ln) := (block_cells (w := (ww126.alloc (.cells #[.string (S df.name), .bool df.ex, .string (S df.t), .slice ta df.ls.length tc, .int .i64 df.ln, .int .i64 df.co] 77))) kp127).1 4
          have t5 : (ww126.alloc (.cells #[.string (S df.name), .bool df.ex, .string (S df.t), .slice ta df.ls.length tc, .int .i64 df.ln, .int .i64 df.co] 77)).cell? ⟨ww126.heap.size, 5, none⟩ = some (.int .i64 df.co) := (block_cells (w := (ww126.alloc (.cells #[.string (S df.name), .bool df.ex, .string (S df.t), .slice ta df.ls.length tc, .int .i64 df.ln, .int .i64 df.co] 77))) kp127).1 5
          have hBq : Below (ww126.alloc (.cells #[.string (S df.name), .bool df.ex, .string (S df.t), .slice ta df.ls.length tc, .int .i64 df.ln, .int .i64 df.co] 77)).heap.size (ww126.alloc (.cells #[.string (S df.name), .bool df.ex, .string (S df.t), .slice ta df.ls.length tc, .int .i64 df.ln, .int .i64 df.co] 77)) ((ww126.alloc (.cells #[.string (S df.name), .bool df.ex, .string (S df.t), .slice ta df.ls.length tc, .int .i64 df.ln, .int .i64 df.co] 77)).alloc (.cells (dfcs [(df, Value.slice ta df.ls.length tc)]).toArray 77)) := (Below.refl _ _).alloc (Nat.le_refl _) _
          have hMl2 : MB + 1 ≤ (ww126.alloc (.cells #[.string (S df.name), .bool df.ex, .string (S df.t), .slice ta df.ls.length tc, .int .i64 df.ln, .int .i64 df.co] 77)).heap.size := by have := (Array.getElem?_eq_some_iff.1 kb127_1).1; omega
          have hTl2 : ww126.heap.size < (ww126.alloc (.cells #[.string (S df.name), .bool df.ex, .string (S df.t), .slice ta df.ls.length tc, .int .i64 df.ln, .int .i64 df.co] 77)).heap.size := (Array.getElem?_eq_some_iff.1 kp127).1
          have hcn := cells_list_new (ww126.alloc (.cells #[.string (S df.name), .bool df.ex, .string (S df.t), .slice ta df.ls.length tc, .int .i64 df.ln, .int .i64 df.co] 77)) (dfcs [(df, Value.slice ta df.ls.length tc)]) 77
          rw [hz127] at hcn
          have HQ : Aside (∀ v7 w7, w7.ownsRow (MB + 1) 77 6 v7 (D.length + 1) (dfcs D ++ (dfcs [(df, Value.slice ta df.ls.length tc)])) → ((ww126.alloc (.cells #[.string (S df.name), .bool df.ex, .string (S df.t), .slice ta df.ls.length tc, .int .i64 df.ln, .int .i64 df.co] 77)).alloc (.cells (dfcs [(df, Value.slice ta df.ls.length tc)]).toArray 77)).grownBy w7 (Value.slice va D.length vc).ownBlock → Prs w7 pb L e ji (effE (effE lm (l ++ m)) li) fm am n2 ∧ w.grownBy w7 (some pb) ∧ w7.heap[w.heap.size]? = some (.cells #[.string ⟨#[]⟩, .slice none 0 0, .slice none 0 0, .int .i64 0, .int .i64 0] 75 (0, 0)) ∧ w7.heap[MB]? = some (.cells (mcs x vI (.slice va D.length vc)) 75 (0, 0)) ∧ w7.heap[ww126.heap.size]? = some (.cells #[.string (S df.name), .bool df.ex, .string (S df.t), .slice ta df.ls.length tc, .int .i64 df.ln, .int .i64 df.co] 77) ∧ w7.ownsRow (MB + 1) 139 5 vI acc.length (imcs acc) ∧ Dfs w7 (MB + 1) (D ++ [(df, .slice ta df.ls.length tc)])) := by
            intro v7 w7 _ hg
            have hlow : ∀ g, (Value.slice va D.length vc).ownBlock = some g → MB + 1 ≤ g := fun g hg => (ro127_1.lt g hg).1
            have hnT : ∀ g, (Value.slice va D.length vc).ownBlock = some g → g < ww126.heap.size := fun g hg => (ro126_1.lt g hg).2
            refine ⟨(PP127.kept hBq).rowed hg hlow (by omega), row_any (grownBy_below GG127 hBq) hg hlow (by omega), ?_, ?_, ?_, ?_, ?_⟩
            · exact (hg.block _ (by simp; omega) (fun e => by have := hlow _ e.symm; omega)).trans ((hBq.block _ (by omega)).trans kb127_0)
            · exact (hg.block _ (by simp; omega) (fun e => by have := hlow _ e.symm; omega)).trans ((hBq.block _ (by omega)).trans kb127_1)
            · exact (hg.block _ (by simp; omega) (fun e => by have := hnT _ e.symm; omega)).trans ((hBq.block _ hTl2).trans kp127)
            · exact (own_below ro127_0 hBq).kept hg (own_ne (own_below ro127_0 hBq) (own_below ro127_1 hBq) (by decide))
            · exact (ts1.stay hBq).kept hg fun p hp => own_ne ((ts1.stay hBq).own p hp) (own_below ro127_1 hBq) (by decide)
          go_wp2_with (at_builtin; go_must (refine wpList_append_own _ rfl _ _ 73 rfl (MB + 1) 77 iD _ 6 80 tyDfs hiD hzD0 hzD1 hzD2 rfl (by decide) (.slice va D.length vc) _ _ rfl (ro127_1.alloc _) ⟨ww126.heap.size + 1, 0, none⟩ 1 1 (dfcs [(df, Value.slice ta df.ls.length tc)]) rfl rfl hcn (df1_one df ta df.ls.length tc) (by unfold maxLen; omega) (by omega) (by simp; omega) ?_); intro v7 w7 hown7 hg7 _; obtain ⟨P7, G7, kR7, kM7, kT7, rI7, ts7⟩ := HQ.out v7 w7 hown7 hg7; have f7 := (block_cells kM7).2; have m7 : w7.cell? ⟨MB, 2, none⟩ = some (.slice va D.length vc) := (block_cells kM7).1 2; have n0 : w7.cell? ⟨MB, 0, none⟩ = some (.string (S x.s)) := (block_cells kM7).1 0; have n1 : w7.cell? ⟨MB, 1, none⟩ = some vI := (block_cells kM7).1 1; have n3 : w7.cell? ⟨MB, 3, none⟩ = some (.int .i64 x.ln) := (block_cells kM7).1 3; have n4 : w7.cell? ⟨MB, 4, none⟩ = some (.int .i64 x.co) := (block_cells kM7).1 4; have t4 : w7.cell? ⟨ww126.heap.size, 4, none⟩ = some (.int .i64 df.ln) := (block_cells kT7).1 4; have t5 : w7.cell? ⟨ww126.heap.size, 5, none⟩ = some (.int .i64 df.co) := (block_cells kT7).1 5; obtain ⟨va7, vc7, rfl⟩ := own_len hown7; clear HQ hg7)
          obtain ⟨ia, ic, rfl⟩ := own_len rI7
          have K8 := (mo_set (u := (.slice va7 (D.length + 1) vc7)) kM7).2
          have R8 := (set_keep (w := w7) (B := MB) (b := w.heap.size) (o := 2) (u := (.slice va7 (D.length + 1) vc7)) (by omega)).trans kR7
          have P8 := P7.set (b := MB) (o := 2) (u := (.slice va7 (D.length + 1) vc7)) (by omega)
          have gs8 : w7.grownBy (w7.setCell ⟨MB, 2, none⟩ (.slice va7 (D.length + 1) vc7)) (some MB) := grownBy_set (grownBy_refl w7 _) _
          have G8 : w.grownBy (w7.setCell ⟨MB, 2, none⟩ (.slice va7 (D.length + 1) vc7)) (some pb) := grownBy_high G7 gs8 (fun y e => by cases e; omega)
          have O8 := hown7.kept gs8 (.inr fun e => by have := (hown7.lt _ e).1; omega)
          have I8 := rI7.kept gs8 (.inr fun e => by have := (rI7.lt _ e).1; omega)
          have T8 := ts7.low gs8 (by omega)
          rw [← dfcs_app] at O8
          rw [← effE_app] at P8
          have hcW := weigh_any P8 (S x.s) ia va7 acc.length ic (D.length + 1) vc7 x.ln x.co df.ln df.co (by omega)
          have hM8 := (Array.getElem?_eq_some_iff.1 K8).1
          have hM9 := (Array.getElem?_eq_some_iff.1 R8).1
          clear hBq m2 hown7 gs8 ts7 rI7
          go_wp2_with fail
          refine hcW.mono ?_
          rintro ee9 w9 ⟨rfl, P9, g9⟩
          have K9 := (g9.block MB hM8 (by simp; omega)).trans K8
          have R9 := (g9.block w.heap.size hM9 (by simp; omega)).trans R8
          have O9 := O8.kept g9 (.inr fun e => by have := (O8.lt _ e).1; omega)
          have I9 := I8.kept g9 (.inr fun e => by have := (I8.lt _ e).1; omega)
          have T9 := T8.low g9 (by omega)
          have G9 := grownBy_trans G8 g9
          rw [← effE_app] at P9
          clear hcW g9 P8 O8 K8 R8 I8 T8
          go_wp2_with fail
          go_roundg d2
          case measure => omega
          case rel => exact ⟨D ++ [(df, .slice ta df.ls.length tc)], n2, ji, _, _, ⟨by omega, by omega, hin.2.1, by simp; omega, by omega, by rw [List.map_append]; exact HE2.out, by simpa [List.append_assoc] using P9, G9, R9, K9, I9, by simpa using O9, T9⟩⟩
        have hq1 : ((S (sg L i)).toList == [101, 120, 112, 111, 114, 116]) = false := by rw [beq_SL]; simpa using hsX
        have hq2 : ((S (sg L i)).toList == [108, 101, 116]) = false := by rw [beq_SL]; simpa using hsL
        have HD : Aside (dfsR L e acc.length (L.length - j + 1) [] nd j = .ok ((D.map (·.1), n), i, m)) := by
          show _ = _
          rw [HE.out, dfsR, if_neg (by rintro (h | h); exact hsX h; exact hsL h)]
          simp [preV]
        clear hsX hsL HE
        have hsi128 := psign_any PP0 he
        go_wp2_with fail
        refine hsi128.mono ?_
        rintro ee128 ww128 ⟨rfl, nn128, rfl⟩
        have hBs128 : Below wr.heap.size wr (wr.drewN nn128) := ⟨rfl, rfl, rfl, Nat.le_refl _, fun _ _ => rfl⟩
        have PP128 := PP0.drewN nn128
        have GG128 : w.grownBy (wr.drewN nn128) (some pb) := grownBy_drewN GG0 nn128
        have kb128_0 := (hBs128.block w.heap.size (Array.getElem?_eq_some_iff.1 kbR).1).trans kbR
        have kb128_1 := (hBs128.block MB (Array.getElem?_eq_some_iff.1 kbM).1).trans kbM
        have ro128_0 := own_below rwI hBs128
        have ro128_1 := own_below rwD hBs128
        clear hsi128 hBs128
        have hsi129 := psign_any PP128 he
        go_wp2_with fail
        refine hsi129.mono ?_
        rintro ee129 ww129 ⟨rfl, nn129, rfl⟩
        have hBs129 : Below wr.heap.size wr (wr.drewN (nn128 + nn129)) := ⟨rfl, rfl, rfl, Nat.le_refl _, fun _ _ => rfl⟩
        have PP129 := PP0.drewN (nn128 + nn129)
        have GG129 : w.grownBy (wr.drewN (nn128 + nn129)) (some pb) := grownBy_drewN GG0 (nn128 + nn129)
        have kb129_0 := (hBs129.block w.heap.size (Array.getElem?_eq_some_iff.1 kbR).1).trans kbR
        have kb129_1 := (hBs129.block MB (Array.getElem?_eq_some_iff.1 kbM).1).trans kbM
        have ro129_0 := own_below rwI hBs129
        have ro129_1 := own_below rwD hBs129
        clear hsi129 hBs129
        have trB : Dfs (wr.drewN (nn128 + nn129)) (MB + 1) D := trs.stay ⟨rfl, rfl, rfl, Nat.le_refl _, fun _ _ => rfl⟩
        by_cases hs3 : sg L i ≠ [125]
        · have hc130 := pexpect_no PP129 he [125] hs3
          have HX130 : Aside (moR L e nd k = .error i) := by
            show _ = _
            rw [HR.out]
            exact mo_no HI.out HD.out hs3
          clear hs3
          go_wp2_with fail
          refine hc130.mono ?_
          rintro ee130 ww130 ⟨rfl, gg130⟩
          have GG130 := grownBy_trans GG129 gg130
          clear hc130 gg130
          go_wp2_with fail
          exact ⟨rfl, by rw [HX130.out]; exact ⟨rfl, GG130⟩⟩
        replace hs3 := Classical.not_not.1 hs3
        have hk3 := sg_lt hs3
        have HX : Aside (moR L e nd k = .ok ((⟨x.s, acc, D.map (·.1), x.ln, x.co⟩, n), i + 1, l ++ m)) := by
          show _ = _
          rw [HR.out]
          exact mo_yes HI.out HD.out hs3
        have HS3 : Aside (sg L i = [125]) := hs3
        clear hs3
        have hc131 := pexpect_yes PP129 he 125 [] HS3.out
        go_wp2_with fail
        refine hc131.mono ?_
        rintro ee131 ww131 ⟨rfl, PP131, gg131⟩
        have kb131_0 := (gg131.block w.heap.size (Array.getElem?_eq_some_iff.1 kb129_0).1 (by simp; omega)).trans kb129_0
        have kb131_1 := (gg131.block MB (Array.getElem?_eq_some_iff.1 kb129_1).1 (by simp; omega)).trans kb129_1
        have ro131_0 := ro129_0.kept gg131 (.inr fun e => by have := (ro129_0.lt _ e).1; omega)
        have ro131_1 := ro129_1.kept gg131 (.inr fun e => by have := (ro129_1.lt _ e).1; omega)
        have trC := trB.low gg131 (by omega)
        have GG131 := grownBy_trans GG129 gg131
        have hl131 := PP131.lt
        clear hc131 gg131
        have r0 : ww131.cell? ⟨w.heap.size, 0, none⟩ = some (.string ⟨#[]⟩) := (block_cells kb131_0).1 0
        have r1 : ww131.cell? ⟨w.heap.size, 1, none⟩ = some (.slice none 0 0) := (block_cells kb131_0).1 1
        have r2 : ww131.cell? ⟨w.heap.size, 2, none⟩ = some (.slice none 0 0) := (block_cells kb131_0).1 2
        have r3 : ww131.cell? ⟨w.heap.size, 3, none⟩ = some (.int .i64 0) := (block_cells kb131_0).1 3
        have r4 : ww131.cell? ⟨w.heap.size, 4, none⟩ = some (.int .i64 0) := (block_cells kb131_0).1 4
        have rf := (block_cells kb131_0).2
        have m0 : ww131.cell? ⟨MB, 0, none⟩ = some (.string (S x.s)) := (block_cells kb131_1).1 0
        have m1 : ww131.cell? ⟨MB, 1, none⟩ = some vI := (block_cells kb131_1).1 1
        have m2 : ww131.cell? ⟨MB, 2, none⟩ = some (.slice va D.length vc) := (block_cells kb131_1).1 2
        have m3 : ww131.cell? ⟨MB, 3, none⟩ = some (.int .i64 x.ln) := (block_cells kb131_1).1 3
        have m4 : ww131.cell? ⟨MB, 4, none⟩ = some (.int .i64 x.co) := (block_cells kb131_1).1 4
        obtain ⟨ia, ic, rfl⟩ := own_len ro131_0
        go_wp2_with fail
        try simp only [Exit.inBlock, Exit.then]
        refine bodyPost_ret (v := .agg #[.string (S x.s), .slice ia acc.length ic, .slice va D.length vc, .int .i64 x.ln, .int .i64 x.co]) (by simp [results, Tryz.results82, go_sem, r0, r1, r2, r3, r4]) rfl ?_
        rw [HX.out]
        refine ⟨_, _, D, rfl, ⟨own_base (ro131_0.kept (grownBy_set (grownBy_set (grownBy_set (grownBy_set (grownBy_set (grownBy_refl ww131 (some w.heap.size)) _) _) _) _) _) (.inr fun e => by have := (ro131_0.lt _ e).1; omega)) (by omega), own_base (ro131_1.kept (grownBy_set (grownBy_set (grownBy_set (grownBy_set (grownBy_set (grownBy_refl ww131 (some w.heap.size)) _) _) _) _) _) (.inr fun e => by have := (ro131_1.lt _ e).1; omega)) (by omega), rfl, ?_⟩, (((((PP131.set (show pb < w.heap.size by omega)).set (show pb < w.heap.size by omega)).set (show pb < w.heap.size by omega)).set (show pb < w.heap.size by omega)).set (show pb < w.heap.size by omega)), grownBy_high GG131 (grownBy_set (grownBy_set (grownBy_set (grownBy_set (grownBy_set (grownBy_refl ww131 (some w.heap.size)) _) _) _) _) _) (fun x e => by cases e; exact Nat.le_refl _)⟩
        exact Dfs.base (trC.low (grownBy_set (grownBy_set (grownBy_set (grownBy_set (grownBy_set (grownBy_refl ww131 (some w.heap.size)) _) _) _) _) _) (by omega)) (by omega)
end Go.Proofs.YtohjfikjbeafiaaGreatDoor
