/- Package insert: node. -/
import Derived.Test.YthdlfeejeboboaaDoorUav
import Derived.Test.YthdlfeejeboboaaDoorUbe
import Derived.Deep.RegionHeld3
namespace Go.Proofs.YthdlfeejeboboaaDoor
open Go.RowKit Go.Maps Ck
open T3.Tp (Ty enc cns met)
open Tr (T Nd nm flat flats)
set_option maxRecDepth 100000
set_option linter.unusedSimpArgs false
set_option linter.unusedVariables false

/-- How node ends: with a new row of nodes. -/
def NdEnd (w : World) (r : List Nd) (e : Ending) (w' : World) : Prop := ∃ v', e = .returned v' ∧ w'.ownsRow w.heap.size 36 8 v' r.length (nrow r) ∧ Below w.heap.size w w'
theorem own_one (w : World) (y : Nd) : (w.alloc (.cells (Tr.ncells y).toArray 36)).ownsRow w.heap.size 36 8 (.slice (some ⟨w.heap.size, 0, none⟩) 1 1) 1 (nrow [y]) :=
  ⟨by simp [nrow, Tr.ncells], .inr ⟨w.heap.size, 1, _, rfl, Nat.le_refl _, heap_alloc_new _ _, Nat.le_refl _, by unfold maxLen; omega, by simp [Tr.ncells], by simp [nrow, Tr.ncells]⟩⟩
theorem nd_end {w W : World} {y : Nd} {r : List Nd} (hr : r = [y]) (hB : Below w.heap.size w W) : NdEnd w r (.returned (.slice (some ⟨W.heap.size, 0, none⟩) 1 1)) (W.alloc (.cells (Tr.ncells y).toArray 36)) := by
  subst hr
  exact ⟨_, rfl, own_low (own_one W y) hB.size, hB.alloc hB.size _⟩
theorem heap_two (w : World) (a b : Obj) : ((w.alloc a).alloc b).heap[w.heap.size + 1]? = some b := by
  have h := heap_alloc_new (w.alloc a) b
  rwa [show (w.alloc a).heap.size = w.heap.size + 1 by simp] at h
theorem nd_endX {w W : World} {y : Nd} {r : List Nd} {bk : Nat} {cs : Array Value} (hr : r = [y]) (hB : Below w.heap.size w W) (hb : bk = W.heap.size) (hc : cs = (Tr.ncells y).toArray) : NdEnd w r (.returned (.slice (some ⟨bk, 0, none⟩) 1 1)) (W.alloc (.cells cs 36)) := by
  subst hb hc
  exact nd_end hr hB
/-- Two local nodes behind the world: the one that is read, the one that is made. -/
structure Two2 (w W : World) (x y : Nd) : Prop where
  bl : Below w.heap.size w W
  sz : W.heap.size = w.heap.size + 2
  b0 : W.heap[w.heap.size]? = some (.cells (Tr.ncells x).toArray 36 (0, 0))
  b1 : W.heap[w.heap.size + 1]? = some (.cells (Tr.ncells y).toArray 36 (0, 0))
theorem Two2.set {w W : World} {x y y' : Nd} {o : Nat} {u : Value} (h : Two2 w W x y) (e : (Tr.ncells y).toArray.setIfInBounds o u = (Tr.ncells y').toArray) : Two2 w (W.setCell ⟨w.heap.size + 1, o, none⟩ u) x y' :=
  ⟨h.bl.trans ⟨rfl, rfl, rfl, by simp [World.setCell], fun k hk => In.setc_ne (by omega)⟩, by simpa [World.setCell] using h.sz, (In.setc_ne (by omega)).trans h.b0, by rw [In.setc h.b1, e]⟩
theorem Two2.drew {w W : World} {x y : Nd} (h : Two2 w W x y) : Two2 w W.drew x y := ⟨below_drew h.bl, h.sz, h.b0, h.b1⟩
theorem Two2.below {w W W' : World} {x y : Nd} (h : Two2 w W x y) (k : Below W.heap.size W W') : Below w.heap.size w W' ∧ W'.heap[w.heap.size]? = some (.cells (Tr.ncells x).toArray 36 (0, 0)) ∧ W'.heap[w.heap.size + 1]? = some (.cells (Tr.ncells y).toArray 36 (0, 0)) := by
  have := h.sz
  exact ⟨h.bl.trans (k.mono (by omega)), (k.block _ (by omega)).trans h.b0, (k.block _ (by omega)).trans h.b1⟩

set_option maxHeartbeats 8000000 in
theorem node_o (B ib fb i at' : Nat) (sv nv tv v : Value) (md : ByteArray) (l : List Nd) (ts : List Ty) (N L : List (List UInt8)) (ss : List In.Si) (x : Nd) (τ : Ty) (w : World) (hI : In.Is B w ib sv md nv tv l ts N fb i ss) (hx : l[at']? = some x) (hτ : ts[at']? = some τ) (h64 : (enc τ).length ≤ 64) (hl : l.length ≤ 100000) (hs : x.s.size ≤ maxLen) (hN : N.length ≤ 1000) (hL : L.length ≤ 100000) (hv : IsAr w v L) (hk : x.kind ≠ 1 ∧ x.kind ≠ 3 ∧ x.kind ≠ 2 ∧ x.kind ≠ 4 ∧ x.kind ≠ 5 ∧ x.kind ≠ 6 ∧ x.kind ≠ 8 ∧ x.kind ≠ 21 ∧ x.kind ≠ 29) :
    Calls Tryd.prog 22 #[.pointer (some ⟨ib, 0, none⟩), .int .i64 (at' : Int), v] w (NdEnd w (In.nodeP N L τ x)) := by
  obtain ⟨c0, c1, c2, c3, c4, c5, cz⟩ := hI.cells
  obtain ⟨an, cn, rfl⟩ := hI.no.form
  obtain ⟨nb, no, rfl, hcn, hnb, hnd⟩ := hI.no.at hx
  have q0 := hnd 0 _ rfl
  rw [Nat.add_zero] at q0
  have q1 := hnd 1 _ rfl
  have q2 := hnd 2 _ rfl
  have q3 := hnd 3 _ rfl
  have q4 := hnd 4 _ rfl
  have q5 := hnd 5 _ rfl
  have q6 := hnd 6 _ rfl
  have q7 := hnd 7 _ rfl
  have hat : at' < l.length := (List.getElem?_eq_some_iff.1 hx).1
  have hat' : (at' : Int) < (l.length : Int) := by omega
  have hat0 : (0 : Int) ≤ (at' : Int) := by omega
  have HE : Aside (In.nodeP N L τ x = [In.base x]) := by show _ = _; unfold In.nodeP; rw [if_neg (by omega), if_neg (by omega), if_neg (by omega), if_neg (by omega), if_neg (by omega), if_neg (by omega), if_neg (by omega)]
  obtain ⟨W, hW⟩ : ∃ W, W = (w.alloc (.cells #[.int .i8 x.kind, .int .i64 x.kids, .int .i64 x.n, .string x.s, .string x.t, .string x.u, .int .i64 x.ln, .int .i64 x.co] 36)).alloc (.cells #[.int .i8 x.kind, .int .i64 x.kids, .int .i64 0, .string ⟨#[]⟩, .string ⟨#[]⟩, .string ⟨#[]⟩, .int .i64 x.ln, .int .i64 x.co] 36) := ⟨_, rfl⟩
  have hT : Two2 w W x (In.base x) := by
    rw [hW]
    exact ⟨((Below.refl _ _).alloc (Nat.le_refl _) _).alloc (by simp) _, by simp, (Below.heap_alloc _ _ _ (by simp)).trans (heap_alloc_new _ _), heap_two w _ _⟩
  have x0 := (block_cells hT.b0).1 0
  have x2 := (block_cells hT.b0).1 2
  have x3 := (block_cells hT.b0).1 3
  have x4 := (block_cells hT.b0).1 4
  have x5 := (block_cells hT.b0).1 5
  have xz := (block_cells hT.b1).2
  simp only [Tr.ncells, List.getElem?_toArray, List.getElem?_cons_zero, List.getElem?_cons_succ] at x0 x2 x3 x4 x5
  have e1 : (x.kind == 1) = false := by simpa using (show x.kind ≠ 1 by omega)
  have e3 : (x.kind == 3) = false := by simpa using (show x.kind ≠ 3 by omega)
  have e2 : (x.kind == 2) = false := by simpa using (show x.kind ≠ 2 by omega)
  have e4 : (x.kind == 4) = false := by simpa using (show x.kind ≠ 4 by omega)
  have e5 : (x.kind == 5) = false := by simpa using (show x.kind ≠ 5 by omega)
  have e6 : (x.kind == 6) = false := by simpa using (show x.kind ≠ 6 by omega)
  have e8 : (x.kind == 8) = false := by simpa using (show x.kind ≠ 8 by omega)
  have e21 : (x.kind == 21) = false := by simpa using (show x.kind ≠ 21 by omega)
  have e29 : (x.kind == 29) = false := by simpa using (show x.kind ≠ 29 by omega)
  go_enter Tryd.func22, Tryd.ntmps22
  go_upto_region 3 with fail
  rw [← hW]
  have hT2 := hT
  have z0 := (block_cells hT.b1).1 0
  have z1 := (block_cells hT.b1).1 1
  have z2 := (block_cells hT.b1).1 2
  have z3 := (block_cells hT.b1).1 3
  have z4 := (block_cells hT.b1).1 4
  have z5 := (block_cells hT.b1).1 5
  have z6 := (block_cells hT.b1).1 6
  have z7 := (block_cells hT.b1).1 7
  simp only [Tr.ncells, In.base, List.getElem?_toArray, List.getElem?_cons_zero, List.getElem?_cons_succ] at z0 z1 z2 z3 z4 z5 z6 z7
  clear hW
  have HB := hT2.bl
  go_wp2_with fail
  go_ret
  rw [HE.out]
  exact nd_end rfl HB

set_option maxHeartbeats 8000000 in
theorem node_n1 (B ib fb i at' : Nat) (sv nv tv v : Value) (md : ByteArray) (l : List Nd) (ts : List Ty) (N L : List (List UInt8)) (ss : List In.Si) (x : Nd) (τ : Ty) (w : World) (hI : In.Is B w ib sv md nv tv l ts N fb i ss) (hx : l[at']? = some x) (hτ : ts[at']? = some τ) (h64 : (enc τ).length ≤ 64) (hl : l.length ≤ 100000) (hs : x.s.size ≤ maxLen) (hN : N.length ≤ 1000) (hL : L.length ≤ 100000) (hv : IsAr w v L) (hk : x.kind = 1) :
    Calls Tryd.prog 22 #[.pointer (some ⟨ib, 0, none⟩), .int .i64 (at' : Int), v] w (NdEnd w (In.nodeP N L τ x)) := by
  obtain ⟨c0, c1, c2, c3, c4, c5, cz⟩ := hI.cells
  obtain ⟨an, cn, rfl⟩ := hI.no.form
  obtain ⟨nb, no, rfl, hcn, hnb, hnd⟩ := hI.no.at hx
  have q0 := hnd 0 _ rfl
  rw [Nat.add_zero] at q0
  have q1 := hnd 1 _ rfl
  have q2 := hnd 2 _ rfl
  have q3 := hnd 3 _ rfl
  have q4 := hnd 4 _ rfl
  have q5 := hnd 5 _ rfl
  have q6 := hnd 6 _ rfl
  have q7 := hnd 7 _ rfl
  have hat : at' < l.length := (List.getElem?_eq_some_iff.1 hx).1
  have hat' : (at' : Int) < (l.length : Int) := by omega
  have hat0 : (0 : Int) ≤ (at' : Int) := by omega
  have HE : Aside (In.nodeP N L τ x = [{ In.base x with n := x.n }]) := by show _ = _; unfold In.nodeP; rw [if_neg (by omega), if_pos (by omega)]
  obtain ⟨W, hW⟩ : ∃ W, W = (w.alloc (.cells #[.int .i8 x.kind, .int .i64 x.kids, .int .i64 x.n, .string x.s, .string x.t, .string x.u, .int .i64 x.ln, .int .i64 x.co] 36)).alloc (.cells #[.int .i8 x.kind, .int .i64 x.kids, .int .i64 0, .string ⟨#[]⟩, .string ⟨#[]⟩, .string ⟨#[]⟩, .int .i64 x.ln, .int .i64 x.co] 36) := ⟨_, rfl⟩
  have hT : Two2 w W x (In.base x) := by
    rw [hW]
    exact ⟨((Below.refl _ _).alloc (Nat.le_refl _) _).alloc (by simp) _, by simp, (Below.heap_alloc _ _ _ (by simp)).trans (heap_alloc_new _ _), heap_two w _ _⟩
  have x0 := (block_cells hT.b0).1 0
  have x2 := (block_cells hT.b0).1 2
  have x3 := (block_cells hT.b0).1 3
  have x4 := (block_cells hT.b0).1 4
  have x5 := (block_cells hT.b0).1 5
  have xz := (block_cells hT.b1).2
  simp only [Tr.ncells, List.getElem?_toArray, List.getElem?_cons_zero, List.getElem?_cons_succ] at x0 x2 x3 x4 x5
  have e3 : (x.kind == 3) = false := by simpa using (show x.kind ≠ 3 by omega)
  have e2 : (x.kind == 2) = false := by simpa using (show x.kind ≠ 2 by omega)
  have e4 : (x.kind == 4) = false := by simpa using (show x.kind ≠ 4 by omega)
  have e5 : (x.kind == 5) = false := by simpa using (show x.kind ≠ 5 by omega)
  have e6 : (x.kind == 6) = false := by simpa using (show x.kind ≠ 6 by omega)
  have e8 : (x.kind == 8) = false := by simpa using (show x.kind ≠ 8 by omega)
  have e21 : (x.kind == 21) = false := by simpa using (show x.kind ≠ 21 by omega)
  have e29 : (x.kind == 29) = false := by simpa using (show x.kind ≠ 29 by omega)
  have HK : Aside (x.kind = 1) := hk
  replace x0 := x0.trans (congrArg (fun z => some (Value.int .i8 z)) hk)
  clear hk
  go_enter Tryd.func22, Tryd.ntmps22
  go_upto_region 3 with fail
  rw [← hW]
  have hT2 : Two2 w (W.setCell ⟨w.heap.size + 1, 2, none⟩ (.int .i64 x.n)) x { In.base x with n := x.n } := hT.set rfl
  have z0 := (block_cells hT.b1).1 0
  have z1 := (block_cells hT.b1).1 1
  have z2 := (block_cells hT.b1).1 2
  have z3 := (block_cells hT.b1).1 3
  have z4 := (block_cells hT.b1).1 4
  have z5 := (block_cells hT.b1).1 5
  have z6 := (block_cells hT.b1).1 6
  have z7 := (block_cells hT.b1).1 7
  simp only [Tr.ncells, In.base, List.getElem?_toArray, List.getElem?_cons_zero, List.getElem?_cons_succ] at z0 z1 z2 z3 z4 z5 z6 z7
  clear hW
  have HB := hT2.bl
  go_wp2_with fail
  go_ret
  rw [HE.out]
  exact nd_endX rfl HB (by simp [World.setCell]) (by simp [Tr.ncells, In.base, HK.out])

set_option maxHeartbeats 8000000 in
theorem node_n3 (B ib fb i at' : Nat) (sv nv tv v : Value) (md : ByteArray) (l : List Nd) (ts : List Ty) (N L : List (List UInt8)) (ss : List In.Si) (x : Nd) (τ : Ty) (w : World) (hI : In.Is B w ib sv md nv tv l ts N fb i ss) (hx : l[at']? = some x) (hτ : ts[at']? = some τ) (h64 : (enc τ).length ≤ 64) (hl : l.length ≤ 100000) (hs : x.s.size ≤ maxLen) (hN : N.length ≤ 1000) (hL : L.length ≤ 100000) (hv : IsAr w v L) (hk : x.kind = 3) :
    Calls Tryd.prog 22 #[.pointer (some ⟨ib, 0, none⟩), .int .i64 (at' : Int), v] w (NdEnd w (In.nodeP N L τ x)) := by
  obtain ⟨c0, c1, c2, c3, c4, c5, cz⟩ := hI.cells
  obtain ⟨an, cn, rfl⟩ := hI.no.form
  obtain ⟨nb, no, rfl, hcn, hnb, hnd⟩ := hI.no.at hx
  have q0 := hnd 0 _ rfl
  rw [Nat.add_zero] at q0
  have q1 := hnd 1 _ rfl
  have q2 := hnd 2 _ rfl
  have q3 := hnd 3 _ rfl
  have q4 := hnd 4 _ rfl
  have q5 := hnd 5 _ rfl
  have q6 := hnd 6 _ rfl
  have q7 := hnd 7 _ rfl
  have hat : at' < l.length := (List.getElem?_eq_some_iff.1 hx).1
  have hat' : (at' : Int) < (l.length : Int) := by omega
  have hat0 : (0 : Int) ≤ (at' : Int) := by omega
  have HE : Aside (In.nodeP N L τ x = [{ In.base x with n := x.n }]) := by show _ = _; unfold In.nodeP; rw [if_neg (by omega), if_pos (by omega)]
  obtain ⟨W, hW⟩ : ∃ W, W = (w.alloc (.cells #[.int .i8 x.kind, .int .i64 x.kids, .int .i64 x.n, .string x.s, .string x.t, .string x.u, .int .i64 x.ln, .int .i64 x.co] 36)).alloc (.cells #[.int .i8 x.kind, .int .i64 x.kids, .int .i64 0, .string ⟨#[]⟩, .string ⟨#[]⟩, .string ⟨#[]⟩, .int .i64 x.ln, .int .i64 x.co] 36) := ⟨_, rfl⟩
  have hT : Two2 w W x (In.base x) := by
    rw [hW]
    exact ⟨((Below.refl _ _).alloc (Nat.le_refl _) _).alloc (by simp) _, by simp, (Below.heap_alloc _ _ _ (by simp)).trans (heap_alloc_new _ _), heap_two w _ _⟩
  have x0 := (block_cells hT.b0).1 0
  have x2 := (block_cells hT.b0).1 2
  have x3 := (block_cells hT.b0).1 3
  have x4 := (block_cells hT.b0).1 4
  have x5 := (block_cells hT.b0).1 5
  have xz := (block_cells hT.b1).2
  simp only [Tr.ncells, List.getElem?_toArray, List.getElem?_cons_zero, List.getElem?_cons_succ] at x0 x2 x3 x4 x5
  have e1 : (x.kind == 1) = false := by simpa using (show x.kind ≠ 1 by omega)
  have e2 : (x.kind == 2) = false := by simpa using (show x.kind ≠ 2 by omega)
  have e4 : (x.kind == 4) = false := by simpa using (show x.kind ≠ 4 by omega)
  have e5 : (x.kind == 5) = false := by simpa using (show x.kind ≠ 5 by omega)
  have e6 : (x.kind == 6) = false := by simpa using (show x.kind ≠ 6 by omega)
  have e8 : (x.kind == 8) = false := by simpa using (show x.kind ≠ 8 by omega)
  have e21 : (x.kind == 21) = false := by simpa using (show x.kind ≠ 21 by omega)
  have e29 : (x.kind == 29) = false := by simpa using (show x.kind ≠ 29 by omega)
  have HK : Aside (x.kind = 3) := hk
  replace x0 := x0.trans (congrArg (fun z => some (Value.int .i8 z)) hk)
  clear hk
  go_enter Tryd.func22, Tryd.ntmps22
  go_upto_region 3 with fail
  rw [← hW]
  have hT2 : Two2 w (W.setCell ⟨w.heap.size + 1, 2, none⟩ (.int .i64 x.n)) x { In.base x with n := x.n } := hT.set rfl
  have z0 := (block_cells hT.b1).1 0
  have z1 := (block_cells hT.b1).1 1
  have z2 := (block_cells hT.b1).1 2
  have z3 := (block_cells hT.b1).1 3
  have z4 := (block_cells hT.b1).1 4
  have z5 := (block_cells hT.b1).1 5
  have z6 := (block_cells hT.b1).1 6
  have z7 := (block_cells hT.b1).1 7
  simp only [Tr.ncells, In.base, List.getElem?_toArray, List.getElem?_cons_zero, List.getElem?_cons_succ] at z0 z1 z2 z3 z4 z5 z6 z7
  clear hW
  have HB := hT2.bl
  go_wp2_with fail
  go_ret
  rw [HE.out]
  exact nd_endX rfl HB (by simp [World.setCell]) (by simp [Tr.ncells, In.base, HK.out])

set_option maxHeartbeats 8000000 in
theorem node_s (B ib fb i at' : Nat) (sv nv tv v : Value) (md : ByteArray) (l : List Nd) (ts : List Ty) (N L : List (List UInt8)) (ss : List In.Si) (x : Nd) (τ : Ty) (w : World) (hI : In.Is B w ib sv md nv tv l ts N fb i ss) (hx : l[at']? = some x) (hτ : ts[at']? = some τ) (h64 : (enc τ).length ≤ 64) (hl : l.length ≤ 100000) (hs : x.s.size ≤ maxLen) (hN : N.length ≤ 1000) (hL : L.length ≤ 100000) (hv : IsAr w v L) (hk : x.kind = 2) :
    Calls Tryd.prog 22 #[.pointer (some ⟨ib, 0, none⟩), .int .i64 (at' : Int), v] w (NdEnd w (In.nodeP N L τ x)) := by
  obtain ⟨c0, c1, c2, c3, c4, c5, cz⟩ := hI.cells
  obtain ⟨an, cn, rfl⟩ := hI.no.form
  obtain ⟨nb, no, rfl, hcn, hnb, hnd⟩ := hI.no.at hx
  have q0 := hnd 0 _ rfl
  rw [Nat.add_zero] at q0
  have q1 := hnd 1 _ rfl
  have q2 := hnd 2 _ rfl
  have q3 := hnd 3 _ rfl
  have q4 := hnd 4 _ rfl
  have q5 := hnd 5 _ rfl
  have q6 := hnd 6 _ rfl
  have q7 := hnd 7 _ rfl
  have hat : at' < l.length := (List.getElem?_eq_some_iff.1 hx).1
  have hat' : (at' : Int) < (l.length : Int) := by omega
  have hat0 : (0 : Int) ≤ (at' : Int) := by omega
  have HE : Aside (In.nodeP N L τ x = [{ In.base x with s := x.s }]) := by show _ = _; unfold In.nodeP; rw [if_neg (by omega), if_neg (by omega), if_pos (by omega)]
  obtain ⟨W, hW⟩ : ∃ W, W = (w.alloc (.cells #[.int .i8 x.kind, .int .i64 x.kids, .int .i64 x.n, .string x.s, .string x.t, .string x.u, .int .i64 x.ln, .int .i64 x.co] 36)).alloc (.cells #[.int .i8 x.kind, .int .i64 x.kids, .int .i64 0, .string ⟨#[]⟩, .string ⟨#[]⟩, .string ⟨#[]⟩, .int .i64 x.ln, .int .i64 x.co] 36) := ⟨_, rfl⟩
  have hT : Two2 w W x (In.base x) := by
    rw [hW]
    exact ⟨((Below.refl _ _).alloc (Nat.le_refl _) _).alloc (by simp) _, by simp, (Below.heap_alloc _ _ _ (by simp)).trans (heap_alloc_new _ _), heap_two w _ _⟩
  have x0 := (block_cells hT.b0).1 0
  have x2 := (block_cells hT.b0).1 2
  have x3 := (block_cells hT.b0).1 3
  have x4 := (block_cells hT.b0).1 4
  have x5 := (block_cells hT.b0).1 5
  have xz := (block_cells hT.b1).2
  simp only [Tr.ncells, List.getElem?_toArray, List.getElem?_cons_zero, List.getElem?_cons_succ] at x0 x2 x3 x4 x5
  have e1 : (x.kind == 1) = false := by simpa using (show x.kind ≠ 1 by omega)
  have e3 : (x.kind == 3) = false := by simpa using (show x.kind ≠ 3 by omega)
  have e4 : (x.kind == 4) = false := by simpa using (show x.kind ≠ 4 by omega)
  have e5 : (x.kind == 5) = false := by simpa using (show x.kind ≠ 5 by omega)
  have e6 : (x.kind == 6) = false := by simpa using (show x.kind ≠ 6 by omega)
  have e8 : (x.kind == 8) = false := by simpa using (show x.kind ≠ 8 by omega)
  have e21 : (x.kind == 21) = false := by simpa using (show x.kind ≠ 21 by omega)
  have e29 : (x.kind == 29) = false := by simpa using (show x.kind ≠ 29 by omega)
  have HK : Aside (x.kind = 2) := hk
  replace x0 := x0.trans (congrArg (fun z => some (Value.int .i8 z)) hk)
  clear hk
  go_enter Tryd.func22, Tryd.ntmps22
  go_upto_region 3 with fail
  rw [← hW]
  have hT2 : Two2 w (W.setCell ⟨w.heap.size + 1, 3, none⟩ (.string x.s)) x { In.base x with s := x.s } := hT.set rfl
  have z0 := (block_cells hT.b1).1 0
  have z1 := (block_cells hT.b1).1 1
  have z2 := (block_cells hT.b1).1 2
  have z3 := (block_cells hT.b1).1 3
  have z4 := (block_cells hT.b1).1 4
  have z5 := (block_cells hT.b1).1 5
  have z6 := (block_cells hT.b1).1 6
  have z7 := (block_cells hT.b1).1 7
  simp only [Tr.ncells, In.base, List.getElem?_toArray, List.getElem?_cons_zero, List.getElem?_cons_succ] at z0 z1 z2 z3 z4 z5 z6 z7
  clear hW
  have HB := hT2.bl
  go_wp2_with fail
  go_ret
  rw [HE.out]
  exact nd_endX rfl HB (by simp [World.setCell]) (by simp [Tr.ncells, In.base, HK.out])

set_option maxHeartbeats 8000000 in
theorem node_v (B ib fb i at' : Nat) (sv nv tv v : Value) (md : ByteArray) (l : List Nd) (ts : List Ty) (N L : List (List UInt8)) (ss : List In.Si) (x : Nd) (τ : Ty) (w : World) (hI : In.Is B w ib sv md nv tv l ts N fb i ss) (hx : l[at']? = some x) (hτ : ts[at']? = some τ) (h64 : (enc τ).length ≤ 64) (hl : l.length ≤ 100000) (hs : x.s.size ≤ maxLen) (hN : N.length ≤ 1000) (hL : L.length ≤ 100000) (hv : IsAr w v L) (hk : x.kind = 4) :
    Calls Tryd.prog 22 #[.pointer (some ⟨ib, 0, none⟩), .int .i64 (at' : Int), v] w (NdEnd w (In.nodeP N L τ x)) := by
  obtain ⟨c0, c1, c2, c3, c4, c5, cz⟩ := hI.cells
  obtain ⟨an, cn, rfl⟩ := hI.no.form
  obtain ⟨nb, no, rfl, hcn, hnb, hnd⟩ := hI.no.at hx
  have q0 := hnd 0 _ rfl
  rw [Nat.add_zero] at q0
  have q1 := hnd 1 _ rfl
  have q2 := hnd 2 _ rfl
  have q3 := hnd 3 _ rfl
  have q4 := hnd 4 _ rfl
  have q5 := hnd 5 _ rfl
  have q6 := hnd 6 _ rfl
  have q7 := hnd 7 _ rfl
  have hat : at' < l.length := (List.getElem?_eq_some_iff.1 hx).1
  have hat' : (at' : Int) < (l.length : Int) := by omega
  have hat0 : (0 : Int) ≤ (at' : Int) := by omega
  have HE : Aside (In.nodeP N L τ x = [{ In.base x with n := (In.dist N L (nm x) : Int) }]) := by show _ = _; unfold In.nodeP; rw [if_neg (by omega), if_neg (by omega), if_neg (by omega), if_pos (by omega)]
  obtain ⟨W, hW⟩ : ∃ W, W = (w.alloc (.cells #[.int .i8 x.kind, .int .i64 x.kids, .int .i64 x.n, .string x.s, .string x.t, .string x.u, .int .i64 x.ln, .int .i64 x.co] 36)).alloc (.cells #[.int .i8 x.kind, .int .i64 x.kids, .int .i64 0, .string ⟨#[]⟩, .string ⟨#[]⟩, .string ⟨#[]⟩, .int .i64 x.ln, .int .i64 x.co] 36) := ⟨_, rfl⟩
  have hT : Two2 w W x (In.base x) := by
    rw [hW]
    exact ⟨((Below.refl _ _).alloc (Nat.le_refl _) _).alloc (by simp) _, by simp, (Below.heap_alloc _ _ _ (by simp)).trans (heap_alloc_new _ _), heap_two w _ _⟩
  have x0 := (block_cells hT.b0).1 0
  have x2 := (block_cells hT.b0).1 2
  have x3 := (block_cells hT.b0).1 3
  have x4 := (block_cells hT.b0).1 4
  have x5 := (block_cells hT.b0).1 5
  have xz := (block_cells hT.b1).2
  simp only [Tr.ncells, List.getElem?_toArray, List.getElem?_cons_zero, List.getElem?_cons_succ] at x0 x2 x3 x4 x5
  have e1 : (x.kind == 1) = false := by simpa using (show x.kind ≠ 1 by omega)
  have e3 : (x.kind == 3) = false := by simpa using (show x.kind ≠ 3 by omega)
  have e2 : (x.kind == 2) = false := by simpa using (show x.kind ≠ 2 by omega)
  have e5 : (x.kind == 5) = false := by simpa using (show x.kind ≠ 5 by omega)
  have e6 : (x.kind == 6) = false := by simpa using (show x.kind ≠ 6 by omega)
  have e8 : (x.kind == 8) = false := by simpa using (show x.kind ≠ 8 by omega)
  have e21 : (x.kind == 21) = false := by simpa using (show x.kind ≠ 21 by omega)
  have e29 : (x.kind == 29) = false := by simpa using (show x.kind ≠ 29 by omega)
  have HK : Aside (x.kind = 4) := hk
  replace x0 := x0.trans (congrArg (fun z => some (Value.int .i8 z)) hk)
  clear hk
  go_enter Tryd.func22, Tryd.ntmps22
  go_upto_region 3 with fail
  rw [← hW]
  have hT2 : Two2 w (W.setCell ⟨w.heap.size + 1, 2, none⟩ (.int .i64 (In.dist N L (nm x) : Int))) x { In.base x with n := (In.dist N L (nm x) : Int) } := hT.set rfl
  have hIW := hI.below hT.bl
  have hdi := distance_any N L hN hL x.s hs v W ib fb hIW.farD (hv.below hT.bl).texts
  rw [show x.s.data.toList = nm x from rfl] at hdi
  generalize (In.dist N L (nm x) : Int) = dd at *
  have z0 := (block_cells hT.b1).1 0
  have z1 := (block_cells hT.b1).1 1
  have z2 := (block_cells hT.b1).1 2
  have z3 := (block_cells hT.b1).1 3
  have z4 := (block_cells hT.b1).1 4
  have z5 := (block_cells hT.b1).1 5
  have z6 := (block_cells hT.b1).1 6
  have z7 := (block_cells hT.b1).1 7
  simp only [Tr.ncells, In.base, List.getElem?_toArray, List.getElem?_cons_zero, List.getElem?_cons_succ] at z0 z1 z2 z3 z4 z5 z6 z7
  clear hW
  have HB := hT2.bl
  go_wp2_with (go_at_call 35; refine hdi.mono ?_; rintro e w9 ⟨rfl, hw9⟩; replace hw9 := hw9.symm; subst hw9)
  go_ret
  rw [HE.out]
  exact nd_endX rfl HB (by simp [World.setCell]) (by simp [Tr.ncells, In.base, HK.out])

set_option maxHeartbeats 8000000 in
theorem node_l (B ib fb i at' : Nat) (sv nv tv v : Value) (md : ByteArray) (l : List Nd) (ts : List Ty) (N L : List (List UInt8)) (ss : List In.Si) (x : Nd) (τ : Ty) (w : World) (hI : In.Is B w ib sv md nv tv l ts N fb i ss) (hx : l[at']? = some x) (hτ : ts[at']? = some τ) (h64 : (enc τ).length ≤ 64) (hl : l.length ≤ 100000) (hs : x.s.size ≤ maxLen) (hN : N.length ≤ 1000) (hL : L.length ≤ 100000) (hv : IsAr w v L) (hk : x.kind = 8) :
    Calls Tryd.prog 22 #[.pointer (some ⟨ib, 0, none⟩), .int .i64 (at' : Int), v] w (NdEnd w (In.nodeP N L τ x)) := by
  obtain ⟨c0, c1, c2, c3, c4, c5, cz⟩ := hI.cells
  obtain ⟨an, cn, rfl⟩ := hI.no.form
  obtain ⟨nb, no, rfl, hcn, hnb, hnd⟩ := hI.no.at hx
  have q0 := hnd 0 _ rfl
  rw [Nat.add_zero] at q0
  have q1 := hnd 1 _ rfl
  have q2 := hnd 2 _ rfl
  have q3 := hnd 3 _ rfl
  have q4 := hnd 4 _ rfl
  have q5 := hnd 5 _ rfl
  have q6 := hnd 6 _ rfl
  have q7 := hnd 7 _ rfl
  have hat : at' < l.length := (List.getElem?_eq_some_iff.1 hx).1
  have hat' : (at' : Int) < (l.length : Int) := by omega
  have hat0 : (0 : Int) ≤ (at' : Int) := by omega
  have HE : Aside (In.nodeP N L τ x = [{ In.base x with t := In.wrS x.t }]) := by show _ = _; unfold In.nodeP; rw [if_neg (by omega), if_neg (by omega), if_neg (by omega), if_neg (by omega), if_neg (by omega), if_pos (by omega)]
  obtain ⟨W, hW⟩ : ∃ W, W = (w.alloc (.cells #[.int .i8 x.kind, .int .i64 x.kids, .int .i64 x.n, .string x.s, .string x.t, .string x.u, .int .i64 x.ln, .int .i64 x.co] 36)).alloc (.cells #[.int .i8 x.kind, .int .i64 x.kids, .int .i64 0, .string ⟨#[]⟩, .string ⟨#[]⟩, .string ⟨#[]⟩, .int .i64 x.ln, .int .i64 x.co] 36) := ⟨_, rfl⟩
  have hT : Two2 w W x (In.base x) := by
    rw [hW]
    exact ⟨((Below.refl _ _).alloc (Nat.le_refl _) _).alloc (by simp) _, by simp, (Below.heap_alloc _ _ _ (by simp)).trans (heap_alloc_new _ _), heap_two w _ _⟩
  have x0 := (block_cells hT.b0).1 0
  have x2 := (block_cells hT.b0).1 2
  have x3 := (block_cells hT.b0).1 3
  have x4 := (block_cells hT.b0).1 4
  have x5 := (block_cells hT.b0).1 5
  have xz := (block_cells hT.b1).2
  simp only [Tr.ncells, List.getElem?_toArray, List.getElem?_cons_zero, List.getElem?_cons_succ] at x0 x2 x3 x4 x5
  have e1 : (x.kind == 1) = false := by simpa using (show x.kind ≠ 1 by omega)
  have e3 : (x.kind == 3) = false := by simpa using (show x.kind ≠ 3 by omega)
  have e2 : (x.kind == 2) = false := by simpa using (show x.kind ≠ 2 by omega)
  have e4 : (x.kind == 4) = false := by simpa using (show x.kind ≠ 4 by omega)
  have e5 : (x.kind == 5) = false := by simpa using (show x.kind ≠ 5 by omega)
  have e6 : (x.kind == 6) = false := by simpa using (show x.kind ≠ 6 by omega)
  have e21 : (x.kind == 21) = false := by simpa using (show x.kind ≠ 21 by omega)
  have e29 : (x.kind == 29) = false := by simpa using (show x.kind ≠ 29 by omega)
  have HK : Aside (x.kind = 8) := hk
  replace x0 := x0.trans (congrArg (fun z => some (Value.int .i8 z)) hk)
  clear hk
  go_enter Tryd.func22, Tryd.ntmps22
  go_upto_region 3 with fail
  rw [← hW]
  have hT2 : Two2 w (W.setCell ⟨w.heap.size + 1, 4, none⟩ (.string (In.wrS x.t))) x { In.base x with t := In.wrS x.t } := hT.set rfl
  have z0 := (block_cells hT.b1).1 0
  have z1 := (block_cells hT.b1).1 1
  have z2 := (block_cells hT.b1).1 2
  have z3 := (block_cells hT.b1).1 3
  have z4 := (block_cells hT.b1).1 4
  have z5 := (block_cells hT.b1).1 5
  have z6 := (block_cells hT.b1).1 6
  have z7 := (block_cells hT.b1).1 7
  simp only [Tr.ncells, In.base, List.getElem?_toArray, List.getElem?_cons_zero, List.getElem?_cons_succ] at z0 z1 z2 z3 z4 z5 z6 z7
  clear hW
  have HB := hT2.bl
  go_wp2_with (go_at_call 36; refine (inWritten_any _ _).mono ?_; rintro e w9 ⟨rfl, hw9⟩; replace hw9 := hw9.symm; subst hw9)
  go_ret
  rw [HE.out]
  exact nd_endX rfl HB (by simp [World.setCell]) (by simp [Tr.ncells, In.base, HK.out])

set_option maxHeartbeats 8000000 in
theorem node_a (B ib fb i at' : Nat) (sv nv tv v : Value) (md : ByteArray) (l : List Nd) (ts : List Ty) (N L : List (List UInt8)) (ss : List In.Si) (x : Nd) (τ : Ty) (w : World) (hI : In.Is B w ib sv md nv tv l ts N fb i ss) (hx : l[at']? = some x) (hτ : ts[at']? = some τ) (h64 : (enc τ).length ≤ 64) (hl : l.length ≤ 100000) (hs : x.s.size ≤ maxLen) (hN : N.length ≤ 1000) (hL : L.length ≤ 100000) (hv : IsAr w v L) (hk : x.kind = 29) :
    Calls Tryd.prog 22 #[.pointer (some ⟨ib, 0, none⟩), .int .i64 (at' : Int), v] w (NdEnd w (In.nodeP N L τ x)) := by
  obtain ⟨c0, c1, c2, c3, c4, c5, cz⟩ := hI.cells
  obtain ⟨an, cn, rfl⟩ := hI.no.form
  obtain ⟨nb, no, rfl, hcn, hnb, hnd⟩ := hI.no.at hx
  have q0 := hnd 0 _ rfl
  rw [Nat.add_zero] at q0
  have q1 := hnd 1 _ rfl
  have q2 := hnd 2 _ rfl
  have q3 := hnd 3 _ rfl
  have q4 := hnd 4 _ rfl
  have q5 := hnd 5 _ rfl
  have q6 := hnd 6 _ rfl
  have q7 := hnd 7 _ rfl
  have hat : at' < l.length := (List.getElem?_eq_some_iff.1 hx).1
  have hat' : (at' : Int) < (l.length : Int) := by omega
  have hat0 : (0 : Int) ≤ (at' : Int) := by omega
  have HE : Aside (In.nodeP N L τ x = []) := by show _ = _; unfold In.nodeP; rw [if_pos hk]
  obtain ⟨W, hW⟩ : ∃ W, W = (w.alloc (.cells #[.int .i8 x.kind, .int .i64 x.kids, .int .i64 x.n, .string x.s, .string x.t, .string x.u, .int .i64 x.ln, .int .i64 x.co] 36)).alloc (.cells #[.int .i8 x.kind, .int .i64 x.kids, .int .i64 0, .string ⟨#[]⟩, .string ⟨#[]⟩, .string ⟨#[]⟩, .int .i64 x.ln, .int .i64 x.co] 36) := ⟨_, rfl⟩
  have hT : Two2 w W x (In.base x) := by
    rw [hW]
    exact ⟨((Below.refl _ _).alloc (Nat.le_refl _) _).alloc (by simp) _, by simp, (Below.heap_alloc _ _ _ (by simp)).trans (heap_alloc_new _ _), heap_two w _ _⟩
  have x0 := (block_cells hT.b0).1 0
  have x2 := (block_cells hT.b0).1 2
  have x3 := (block_cells hT.b0).1 3
  have x4 := (block_cells hT.b0).1 4
  have x5 := (block_cells hT.b0).1 5
  have xz := (block_cells hT.b1).2
  simp only [Tr.ncells, List.getElem?_toArray, List.getElem?_cons_zero, List.getElem?_cons_succ] at x0 x2 x3 x4 x5
  have e1 : (x.kind == 1) = false := by simpa using (show x.kind ≠ 1 by omega)
  have e3 : (x.kind == 3) = false := by simpa using (show x.kind ≠ 3 by omega)
  have e2 : (x.kind == 2) = false := by simpa using (show x.kind ≠ 2 by omega)
  have e4 : (x.kind == 4) = false := by simpa using (show x.kind ≠ 4 by omega)
  have e5 : (x.kind == 5) = false := by simpa using (show x.kind ≠ 5 by omega)
  have e6 : (x.kind == 6) = false := by simpa using (show x.kind ≠ 6 by omega)
  have e8 : (x.kind == 8) = false := by simpa using (show x.kind ≠ 8 by omega)
  have e21 : (x.kind == 21) = false := by simpa using (show x.kind ≠ 21 by omega)
  have HK : Aside (x.kind = 29) := hk
  replace x0 := x0.trans (congrArg (fun z => some (Value.int .i8 z)) hk)
  clear hk
  go_enter Tryd.func22, Tryd.ntmps22
  go_upto_region 3 with fail
  rw [← hW]
  clear hW
  have HB := hT.bl
  go_wp2_with fail
  go_ret
  rw [HE.out]
  exact ⟨_, rfl, own_nil _ _ _ _, HB⟩
end Go.Proofs.YthdlfeejeboboaaDoor
