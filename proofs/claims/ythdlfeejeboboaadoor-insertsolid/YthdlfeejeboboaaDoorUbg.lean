/- Package insert: node, of functions and of lists; all kinds. -/
import Derived.Test.YthdlfeejeboboaaDoorUbf
namespace Go.Proofs.YthdlfeejeboboaaDoor
open Go.RowKit Go.Maps Ck
open T3.Tp (Ty enc cns met)
open Tr (T Nd nm flat flats)
set_option maxRecDepth 100000
set_option linter.unusedSimpArgs false
set_option linter.unusedVariables false

structure Two3 (w W : World) (x : Nd) : Prop where
  bl : Below w.heap.size w W
  b1 : W.heap[w.heap.size + 1]? = some (.cells (Tr.ncells (In.base x)).toArray 36 (0, 0))

set_option maxHeartbeats 8000000 in
theorem node_f5 (B ib fb i at' : Nat) (sv nv tv v : Value) (md : ByteArray) (l : List Nd) (ts : List Ty) (N L : List (List UInt8)) (ss : List In.Si) (x : Nd) (τ : Ty) (w : World) (hI : In.Is B w ib sv md nv tv l ts N fb i ss) (hx : l[at']? = some x) (hτ : ts[at']? = some τ) (h64 : (enc τ).length ≤ 64) (hl : l.length ≤ 100000) (hs : x.s.size ≤ maxLen) (hN : N.length ≤ 1000) (hL : L.length ≤ 100000) (hv : IsAr w v L) (hk : x.kind = 5) :
    Calls Tryd.prog 22 #[.pointer (some ⟨ib, 0, none⟩), .int .i64 (at' : Int), v] w (NdEnd w (In.nodeP N L τ x)) := by
  obtain ⟨c0, c1, c2, c3, c4, c5, cz⟩ := hI.cells
  obtain ⟨an, cn, rfl⟩ := hI.no.form
  obtain ⟨nb, no, rfl, hcn, hnb, hnd⟩ := hI.no.at hx
  have q0 := hnd 0 _ rfl
  rw [Nat.add_zero] at q0
  have q1 := hnd 1 _ rfl
  have q2 := hnd 2 _ rfl
  have q3 := hnd 3 _ rfl
  have q4 := hnd 4 _ rfl
  have q5 := hnd 5 _ rfl
  have q6 := hnd 6 _ rfl
  have q7 := hnd 7 _ rfl
  have hat : at' < l.length := (List.getElem?_eq_some_iff.1 hx).1
  have hat' : (at' : Int) < (l.length : Int) := by omega
  have hat0 : (0 : Int) ≤ (at' : Int) := by omega
  have HE : Aside (In.nodeP N L τ x = [{ In.base x with t := In.wrS x.t, u := In.wrS x.u }]) := by show _ = _; unfold In.nodeP; rw [if_neg (by omega), if_neg (by omega), if_neg (by omega), if_neg (by omega), if_pos (by omega)]
  obtain ⟨W, hW⟩ : ∃ W, W = (w.alloc (.cells #[.int .i8 x.kind, .int .i64 x.kids, .int .i64 x.n, .string x.s, .string x.t, .string x.u, .int .i64 x.ln, .int .i64 x.co] 36)).alloc (.cells #[.int .i8 x.kind, .int .i64 x.kids, .int .i64 0, .string ⟨#[]⟩, .string ⟨#[]⟩, .string ⟨#[]⟩, .int .i64 x.ln, .int .i64 x.co] 36) := ⟨_, rfl⟩
  have hT : Two2 w W x (In.base x) := by
    rw [hW]
    exact ⟨((Below.refl _ _).alloc (Nat.le_refl _) _).alloc (by simp) _, by simp, (Below.heap_alloc _ _ _ (by simp)).trans (heap_alloc_new _ _), heap_two w _ _⟩
  have x0 := (block_cells hT.b0).1 0
  have x2 := (block_cells hT.b0).1 2
  have x3 := (block_cells hT.b0).1 3
  have x4 := (block_cells hT.b0).1 4
  have x5 := (block_cells hT.b0).1 5
  have xz := (block_cells hT.b1).2
  simp only [Tr.ncells, List.getElem?_toArray, List.getElem?_cons_zero, List.getElem?_cons_succ] at x0 x2 x3 x4 x5
  have e1 : (x.kind == 1) = false := by simpa using (show x.kind ≠ 1 by omega)
  have e3 : (x.kind == 3) = false := by simpa using (show x.kind ≠ 3 by omega)
  have e2 : (x.kind == 2) = false := by simpa using (show x.kind ≠ 2 by omega)
  have e4 : (x.kind == 4) = false := by simpa using (show x.kind ≠ 4 by omega)
  have e6 : (x.kind == 6) = false := by simpa using (show x.kind ≠ 6 by omega)
  have e8 : (x.kind == 8) = false := by simpa using (show x.kind ≠ 8 by omega)
  have e21 : (x.kind == 21) = false := by simpa using (show x.kind ≠ 21 by omega)
  have e29 : (x.kind == 29) = false := by simpa using (show x.kind ≠ 29 by omega)
  have HK : Aside (x.kind = 5) := hk
  replace x0 := x0.trans (congrArg (fun z => some (Value.int .i8 z)) hk)
  clear hk
  go_enter Tryd.func22, Tryd.ntmps22
  go_upto_region 3 with fail
  rw [← hW]
  have hT2 : Two2 w ((W.drew.setCell ⟨w.heap.size + 1, 4, none⟩ (.string (In.wrS x.t))).setCell ⟨w.heap.size + 1, 5, none⟩ (.string (In.wrS x.u))) x { In.base x with t := In.wrS x.t, u := In.wrS x.u } := (hT.drew.set (y' := { In.base x with t := In.wrS x.t }) rfl).set rfl
  have z0 := (block_cells hT.b1).1 0
  have z1 := (block_cells hT.b1).1 1
  have z2 := (block_cells hT.b1).1 2
  have z3 := (block_cells hT.b1).1 3
  have z4 := (block_cells hT.b1).1 4
  have z5 := (block_cells hT.b1).1 5
  have z6 := (block_cells hT.b1).1 6
  have z7 := (block_cells hT.b1).1 7
  simp only [Tr.ncells, In.base, List.getElem?_toArray, List.getElem?_cons_zero, List.getElem?_cons_succ] at z0 z1 z2 z3 z4 z5 z6 z7
  clear hW
  have HB := hT2.bl
  go_upto_region 13 with fail
  go_region_held3 (fun V => V.cell? ⟨w.heap.size, 4, none⟩ = some (.string x.t) ∧ V.cell? ⟨w.heap.size, 5, none⟩ = some (.string x.u)) (first | go_keep) (first | (go_at_call 36; refine (inWritten_any _ _).mono ?_; rintro e w9 ⟨rfl, hw9⟩; replace hw9 := hw9.symm; subst hw9))
  all_goals
    go_wp2_with fail
    go_ret
    rw [HE.out]
    exact nd_endX rfl HB (by simp [World.setCell]) (by simp [Tr.ncells, In.base, HK.out])

set_option maxHeartbeats 8000000 in
theorem node_f6 (B ib fb i at' : Nat) (sv nv tv v : Value) (md : ByteArray) (l : List Nd) (ts : List Ty) (N L : List (List UInt8)) (ss : List In.Si) (x : Nd) (τ : Ty) (w : World) (hI : In.Is B w ib sv md nv tv l ts N fb i ss) (hx : l[at']? = some x) (hτ : ts[at']? = some τ) (h64 : (enc τ).length ≤ 64) (hl : l.length ≤ 100000) (hs : x.s.size ≤ maxLen) (hN : N.length ≤ 1000) (hL : L.length ≤ 100000) (hv : IsAr w v L) (hk : x.kind = 6) :
    Calls Tryd.prog 22 #[.pointer (some ⟨ib, 0, none⟩), .int .i64 (at' : Int), v] w (NdEnd w (In.nodeP N L τ x)) := by
  obtain ⟨c0, c1, c2, c3, c4, c5, cz⟩ := hI.cells
  obtain ⟨an, cn, rfl⟩ := hI.no.form
  obtain ⟨nb, no, rfl, hcn, hnb, hnd⟩ := hI.no.at hx
  have q0 := hnd 0 _ rfl
  rw [Nat.add_zero] at q0
  have q1 := hnd 1 _ rfl
  have q2 := hnd 2 _ rfl
  have q3 := hnd 3 _ rfl
  have q4 := hnd 4 _ rfl
  have q5 := hnd 5 _ rfl
  have q6 := hnd 6 _ rfl
  have q7 := hnd 7 _ rfl
  have hat : at' < l.length := (List.getElem?_eq_some_iff.1 hx).1
  have hat' : (at' : Int) < (l.length : Int) := by omega
  have hat0 : (0 : Int) ≤ (at' : Int) := by omega
  have HE : Aside (In.nodeP N L τ x = [{ In.base x with t := In.wrS x.t, u := In.wrS x.u }]) := by show _ = _; unfold In.nodeP; rw [if_neg (by omega), if_neg (by omega), if_neg (by omega), if_neg (by omega), if_pos (by omega)]
  obtain ⟨W, hW⟩ : ∃ W, W = (w.alloc (.cells #[.int .i8 x.kind, .int .i64 x.kids, .int .i64 x.n, .string x.s, .string x.t, .string x.u, .int .i64 x.ln, .int .i64 x.co] 36)).alloc (.cells #[.int .i8 x.kind, .int .i64 x.kids, .int .i64 0, .string ⟨#[]⟩, .string ⟨#[]⟩, .string ⟨#[]⟩, .int .i64 x.ln, .int .i64 x.co] 36) := ⟨_, rfl⟩
  have hT : Two2 w W x (In.base x) := by
    rw [hW]
    exact ⟨((Below.refl _ _).alloc (Nat.le_refl _) _).alloc (by simp) _, by simp, (Below.heap_alloc _ _ _ (by simp)).trans (heap_alloc_new _ _), heap_two w _ _⟩
  have x0 := (block_cells hT.b0).1 0
  have x2 := (block_cells hT.b0).1 2
  have x3 := (block_cells hT.b0).1 3
  have x4 := (block_cells hT.b0).1 4
  have x5 := (block_cells hT.b0).1 5
  have xz := (block_cells hT.b1).2
  simp only [Tr.ncells, List.getElem?_toArray, List.getElem?_cons_zero, List.getElem?_cons_succ] at x0 x2 x3 x4 x5
  have e1 : (x.kind == 1) = false := by simpa using (show x.kind ≠ 1 by omega)
  have e3 : (x.kind == 3) = false := by simpa using (show x.kind ≠ 3 by omega)
  have e2 : (x.kind == 2) = false := by simpa using (show x.kind ≠ 2 by omega)
  have e4 : (x.kind == 4) = false := by simpa using (show x.kind ≠ 4 by omega)
  have e5 : (x.kind == 5) = false := by simpa using (show x.kind ≠ 5 by omega)
  have e8 : (x.kind == 8) = false := by simpa using (show x.kind ≠ 8 by omega)
  have e21 : (x.kind == 21) = false := by simpa using (show x.kind ≠ 21 by omega)
  have e29 : (x.kind == 29) = false := by simpa using (show x.kind ≠ 29 by omega)
  have HK : Aside (x.kind = 6) := hk
  replace x0 := x0.trans (congrArg (fun z => some (Value.int .i8 z)) hk)
  clear hk
  go_enter Tryd.func22, Tryd.ntmps22
  go_upto_region 3 with fail
  rw [← hW]
  have hT2 : Two2 w ((W.drew.setCell ⟨w.heap.size + 1, 4, none⟩ (.string (In.wrS x.t))).setCell ⟨w.heap.size + 1, 5, none⟩ (.string (In.wrS x.u))) x { In.base x with t := In.wrS x.t, u := In.wrS x.u } := (hT.drew.set (y' := { In.base x with t := In.wrS x.t }) rfl).set rfl
  have z0 := (block_cells hT.b1).1 0
  have z1 := (block_cells hT.b1).1 1
  have z2 := (block_cells hT.b1).1 2
  have z3 := (block_cells hT.b1).1 3
  have z4 := (block_cells hT.b1).1 4
  have z5 := (block_cells hT.b1).1 5
  have z6 := (block_cells hT.b1).1 6
  have z7 := (block_cells hT.b1).1 7
  simp only [Tr.ncells, In.base, List.getElem?_toArray, List.getElem?_cons_zero, List.getElem?_cons_succ] at z0 z1 z2 z3 z4 z5 z6 z7
  clear hW
  have HB := hT2.bl
  go_upto_region 13 with fail
  go_region_held3 (fun V => V.cell? ⟨w.heap.size, 4, none⟩ = some (.string x.t) ∧ V.cell? ⟨w.heap.size, 5, none⟩ = some (.string x.u)) (first | go_keep) (first | (go_at_call 36; refine (inWritten_any _ _).mono ?_; rintro e w9 ⟨rfl, hw9⟩; replace hw9 := hw9.symm; subst hw9))
  all_goals
    go_wp2_with fail
    go_ret
    rw [HE.out]
    exact nd_endX rfl HB (by simp [World.setCell]) (by simp [Tr.ncells, In.base, HK.out])

set_option maxHeartbeats 8000000 in
theorem node_t (B ib fb i at' : Nat) (sv nv tv v : Value) (md : ByteArray) (l : List Nd) (ts : List Ty) (N L : List (List UInt8)) (ss : List In.Si) (x : Nd) (τ : Ty) (w : World) (hI : In.Is B w ib sv md nv tv l ts N fb i ss) (hx : l[at']? = some x) (hτ : ts[at']? = some τ) (h64 : (enc τ).length ≤ 64) (hl : l.length ≤ 100000) (hs : x.s.size ≤ maxLen) (hN : N.length ≤ 1000) (hL : L.length ≤ 100000) (hv : IsAr w v L) (hk : x.kind = 21) (a : Ty) (ha : τ = .tl a) :
    Calls Tryd.prog 22 #[.pointer (some ⟨ib, 0, none⟩), .int .i64 (at' : Int), v] w (NdEnd w (In.nodeP N L τ x)) := by
  obtain ⟨c0, c1, c2, c3, c4, c5, cz⟩ := hI.cells
  obtain ⟨an, cn, rfl⟩ := hI.no.form
  obtain ⟨nb, no, rfl, hcn, hnb, hnd⟩ := hI.no.at hx
  have q0 := hnd 0 _ rfl
  rw [Nat.add_zero] at q0
  have q1 := hnd 1 _ rfl
  have q2 := hnd 2 _ rfl
  have q3 := hnd 3 _ rfl
  have q4 := hnd 4 _ rfl
  have q5 := hnd 5 _ rfl
  have q6 := hnd 6 _ rfl
  have q7 := hnd 7 _ rfl
  have hat : at' < l.length := (List.getElem?_eq_some_iff.1 hx).1
  have hat' : (at' : Int) < (l.length : Int) := by omega
  have hat0 : (0 : Int) ≤ (at' : Int) := by omega
  have HE : Aside (In.nodeP N L τ x = [{ In.base x with t := S (enc a) }]) := by show _ = _; unfold In.nodeP; rw [if_neg (by omega), if_neg (by omega), if_neg (by omega), if_neg (by omega), if_neg (by omega), if_neg (by omega), if_pos (by omega)]; rw [ha]; rfl
  obtain ⟨W, hW⟩ : ∃ W, W = (w.alloc (.cells #[.int .i8 x.kind, .int .i64 x.kids, .int .i64 x.n, .string x.s, .string x.t, .string x.u, .int .i64 x.ln, .int .i64 x.co] 36)).alloc (.cells #[.int .i8 x.kind, .int .i64 x.kids, .int .i64 0, .string ⟨#[]⟩, .string ⟨#[]⟩, .string ⟨#[]⟩, .int .i64 x.ln, .int .i64 x.co] 36) := ⟨_, rfl⟩
  have hT : Two2 w W x (In.base x) := by
    rw [hW]
    exact ⟨((Below.refl _ _).alloc (Nat.le_refl _) _).alloc (by simp) _, by simp, (Below.heap_alloc _ _ _ (by simp)).trans (heap_alloc_new _ _), heap_two w _ _⟩
  have x0 := (block_cells hT.b0).1 0
  have x2 := (block_cells hT.b0).1 2
  have x3 := (block_cells hT.b0).1 3
  have x4 := (block_cells hT.b0).1 4
  have x5 := (block_cells hT.b0).1 5
  have xz := (block_cells hT.b1).2
  simp only [Tr.ncells, List.getElem?_toArray, List.getElem?_cons_zero, List.getElem?_cons_succ] at x0 x2 x3 x4 x5
  have e1 : (x.kind == 1) = false := by simpa using (show x.kind ≠ 1 by omega)
  have e3 : (x.kind == 3) = false := by simpa using (show x.kind ≠ 3 by omega)
  have e2 : (x.kind == 2) = false := by simpa using (show x.kind ≠ 2 by omega)
  have e4 : (x.kind == 4) = false := by simpa using (show x.kind ≠ 4 by omega)
  have e5 : (x.kind == 5) = false := by simpa using (show x.kind ≠ 5 by omega)
  have e6 : (x.kind == 6) = false := by simpa using (show x.kind ≠ 6 by omega)
  have e8 : (x.kind == 8) = false := by simpa using (show x.kind ≠ 8 by omega)
  have e29 : (x.kind == 29) = false := by simpa using (show x.kind ≠ 29 by omega)
  have HK : Aside (x.kind = 21) := hk
  replace x0 := x0.trans (congrArg (fun z => some (Value.int .i8 z)) hk)
  clear hk
  go_enter Tryd.func22, Tryd.ntmps22
  go_upto_region 3 with fail
  rw [← hW]
  clear hW
  subst ha
  have hpa := fun V => T3.parts_yes (.tl a) h64 V
  have hIW := hI.below hT.bl
  obtain ⟨_, _, c2', _, _, _, _⟩ := hIW.cells
  obtain ⟨at1, ct, rfl⟩ := txs_form hIW.ty
  obtain ⟨tb, to', rfl, htc, htb, hty⟩ := hIW.type hτ
  have hkt : at' < ts.length := (List.getElem?_eq_some_iff.1 hτ).1
  have hp' : (at' : Int) < ((ts.map enc).length : Int) := by rw [List.length_map]; omega
  have HX : Aside (∀ (w1 : World) (v1 : Value), w1.ownsRow W.heap.size 9 1 v1 (T3.Tp.kids (.tl a)).length (T3.tcells ((T3.Tp.kids (.tl a)).map enc)) → Below W.heap.size W w1 → ∃ g cap, v1 = .slice (some ⟨g, 0, none⟩) 1 cap ∧ 1 ≤ cap ∧ w1.cell? ⟨g, 0, none⟩ = some (.string (S (enc a))) ∧ (∀ q, w1.frozen? ⟨w.heap.size + 1, q, none⟩ = false) ∧ Two3 w w1 x) := fun w1 v1 h1 h2 => by
    obtain ⟨g, cap, r1, r2, r3, r4⟩ := own_cells h1 (by simp [T3.Tp.kids])
    obtain ⟨k1, k2, k3⟩ := hT.below h2
    exact ⟨g, cap, r1, r2, by rw [r4 0 (by simp [T3.Tp.kids])]; rfl, (block_cells k3).2, ⟨k1, k3⟩⟩
  have HPA : Aside (∀ V, Calls Tryd.prog 37 #[.string (S (enc (.tl a)))] V fun e w' => ∃ v, e = .returned v ∧ w'.ownsRow V.heap.size 9 1 v (T3.Tp.kids (.tl a)).length (T3.tcells ((T3.Tp.kids (.tl a)).map enc)) ∧ Below V.heap.size V w') := hpa
  clear hpa hI hIW hτ h64 hv hx hnd hT
  generalize hsa : S (enc a) = sa at *
  clear hsa
  generalize hsl : S (enc (.tl a)) = sl at *
  clear hsl
  generalize (ts.map enc).length = tn at *
  go_upto_region 17 with fail
  go_wp2_with fail
  go_at_call 37
  refine (HPA.out _).mono ?_
  rintro e w1 ⟨v1, rfl, hown1, hB1⟩
  obtain ⟨g, cap, rfl, hcap, hg0, hfz, hT3⟩ := HX.out w1 _ hown1 hB1
  have y0 := (block_cells hT3.b1).1 0
  have y1 := (block_cells hT3.b1).1 1
  have y2 := (block_cells hT3.b1).1 2
  have y3 := (block_cells hT3.b1).1 3
  have y4 := (block_cells hT3.b1).1 4
  have y5 := (block_cells hT3.b1).1 5
  have y6 := (block_cells hT3.b1).1 6
  have y7 := (block_cells hT3.b1).1 7
  simp only [Tr.ncells, In.base, List.getElem?_toArray, List.getElem?_cons_zero, List.getElem?_cons_succ] at y0 y1 y2 y3 y4 y5 y6 y7
  have HB := hT3.bl
  clear HX HPA hown1 hB1 hT3 c2' hty xz x0 x2 x3 x4 x5
  have HB2 : Below w.heap.size w (w1.setCell ⟨w.heap.size + 1, 4, none⟩ (.string sa)) := HB.trans ⟨rfl, rfl, rfl, by simp [World.setCell], fun k hk => In.setc_ne (by omega)⟩
  go_wp2_with fail
  go_ret
  rw [HE.out]
  exact nd_endX rfl HB2 (by simp [World.setCell]) (by simp [Tr.ncells, In.base, HK.out])

theorem node_any (B ib fb i at' : Nat) (sv nv tv v : Value) (md : ByteArray) (l : List Nd) (ts : List Ty) (N L : List (List UInt8)) (ss : List In.Si) (x : Nd) (τ : Ty) (w : World) (hI : In.Is B w ib sv md nv tv l ts N fb i ss) (hx : l[at']? = some x) (hτ : ts[at']? = some τ) (h64 : (enc τ).length ≤ 64) (hl : l.length ≤ 100000) (hs : x.s.size ≤ maxLen) (hN : N.length ≤ 1000) (hL : L.length ≤ 100000) (hv : IsAr w v L) (hg : x.kind = 21 → ∃ a, τ = .tl a) :
    Calls Tryd.prog 22 #[.pointer (some ⟨ib, 0, none⟩), .int .i64 (at' : Int), v] w (NdEnd w (In.nodeP N L τ x)) := by
  by_cases k1 : x.kind = 1
  · exact node_n1 B ib fb i at' sv nv tv v md l ts N L ss x τ w hI hx hτ h64 hl hs hN hL hv k1
  by_cases k3 : x.kind = 3
  · exact node_n3 B ib fb i at' sv nv tv v md l ts N L ss x τ w hI hx hτ h64 hl hs hN hL hv k3
  by_cases k2 : x.kind = 2
  · exact node_s B ib fb i at' sv nv tv v md l ts N L ss x τ w hI hx hτ h64 hl hs hN hL hv k2
  by_cases k4 : x.kind = 4
  · exact node_v B ib fb i at' sv nv tv v md l ts N L ss x τ w hI hx hτ h64 hl hs hN hL hv k4
  by_cases k5 : x.kind = 5
  · exact node_f5 B ib fb i at' sv nv tv v md l ts N L ss x τ w hI hx hτ h64 hl hs hN hL hv k5
  by_cases k6 : x.kind = 6
  · exact node_f6 B ib fb i at' sv nv tv v md l ts N L ss x τ w hI hx hτ h64 hl hs hN hL hv k6
  by_cases k8 : x.kind = 8
  · exact node_l B ib fb i at' sv nv tv v md l ts N L ss x τ w hI hx hτ h64 hl hs hN hL hv k8
  by_cases k21 : x.kind = 21
  · obtain ⟨a, ha⟩ := hg k21
    exact node_t B ib fb i at' sv nv tv v md l ts N L ss x τ w hI hx hτ h64 hl hs hN hL hv k21 a ha
  by_cases k29 : x.kind = 29
  · exact node_a B ib fb i at' sv nv tv v md l ts N L ss x τ w hI hx hτ h64 hl hs hN hL hv k29
  exact node_o B ib fb i at' sv nv tv v md l ts N L ss x τ w hI hx hτ h64 hl hs hN hL hv ⟨k1, k3, k2, k4, k5, k6, k8, k21, k29⟩
end Go.Proofs.YthdlfeejeboboaaDoor
