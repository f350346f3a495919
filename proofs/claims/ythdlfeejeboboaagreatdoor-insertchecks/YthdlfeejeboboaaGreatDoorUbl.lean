/- Package insert: casts. -/
import Derived.Test.YthdlfeejeboboaaGreatDoorUbe
import Derived.StillTailTactics
import Derived.Deep.RegionWith
import Derived.Test.YthdlfeejeboboaaGreatDoorUbd
namespace Go.Proofs.YthdlfeejeboboaaGreatDoor
open Go.RowKit Go.Maps Ck
open T3.Tp (Ty enc cns met)
open Tr (T Nd nm flat flats)
set_option maxRecDepth 100000
set_option linter.unusedSimpArgs false
set_option linter.unusedVariables false

set_option maxHeartbeats 8000000 in
theorem casts_10 (B ib fb i b at' kb mb lo hi m : Nat) (md : ByteArray) (nv tv va sv : Value) (l : List Nd) (ts : List Ty) (N : List (List UInt8)) (ah : List Nd) (bs : List Nat) (w : World) (st : List In.PT × List In.Si) (x : Nd) (τ : Ty) (tk : List Ty) (kx : List Nd) (hC : In.Cst B ib fb i b at' kb mb lo hi md nv tv va l ts N ah bs w st sv) (hK : In.Kd2 l ts (st.1.map In.PT.plc) tk kx) (hx : l[at']? = some x) (hl : l.length ≤ 100000) (hτ : ts[at']? = some τ) (h64 : ∀ t ∈ ts, (enc t).length ≤ 64) (hG : In.GdN x τ tk) (hm : In.AhB m st.1) (hm2 : m + st.1.length + 5 ≤ 1000000) (hss : st.2.length + st.1.length + 5 ≤ 100000) (hN : Nod x 10) :
    Calls Tryz.prog 64 #[.pointer (some ⟨ib, 0, none⟩), .pointer (some ⟨b, 0, none⟩)] w (In.CsEnd B ib fb i b at' kb mb lo hi md nv tv va l ts N ah bs w ((In.wishes x τ tk).foldl (In.wish x tk kx) st)) := by
  have hk : x.kind = 10 := hN.kind
  have hn : st.1.length = tk.length := by have := hK.len; simpa using this.symm
  have hn2 : st.1.length = 2 := by
    have h1 := hN.kids (by decide)
    have h2 := hG.kids
    have h3 : Tr.arK ((10 : Nat) : Int) = 2 := by decide
    omega
  obtain ⟨c0, c1, c2, c3, c4, c5, cz⟩ := hC.is.cells
  obtain ⟨d0, d1, d2, d3, dz, -, -⟩ := hC.pn.cells
  obtain ⟨an, cn, rfl⟩ := hC.is.no.form
  obtain ⟨nb, no, rfl, hcn, hnb, hnd⟩ := hC.is.no.at hx
  have q0 := hnd 0 _ rfl
  rw [Nat.add_zero] at q0
  have q1 := hnd 1 _ rfl
  have q2 := hnd 2 _ rfl
  have q3 := hnd 3 _ rfl
  have q4 := hnd 4 _ rfl
  have q5 := hnd 5 _ rfl
  have q6 := hnd 6 _ rfl
  have q7 := hnd 7 _ rfl
  have hat : at' < l.length := (List.getElem?_eq_some_iff.1 hx).1
  have hat' : (at' : Int) < (l.length : Int) := by omega
  have hat0 : (0 : Int) ≤ (at' : Int) := by omega
  have hbz : b < w.heap.size := by have := hC.lt; have := hC.types; omega
  have hibz : ib < w.heap.size := by have := hC.is.lt; omega
  obtain ⟨W0, hW0⟩ : ∃ W0, W0 = (w.alloc (.cells #[.int .i8 x.kind, .int .i64 x.kids, .int .i64 x.n, .string x.s, .string x.t, .string x.u, .int .i64 x.ln, .int .i64 x.co] 72)).drew := ⟨_, rfl⟩
  have B0 : Below w.heap.size w W0 := by rw [hW0]; exact below_drew ((Below.refl _ _).alloc (Nat.le_refl _) _)
  have b0 : W0.heap[w.heap.size]? = some (.cells #[.int .i8 x.kind, .int .i64 x.kids, .int .i64 x.n, .string x.s, .string x.t, .string x.u, .int .i64 x.ln, .int .i64 x.co] 72 (0, 0)) := by rw [hW0]; exact heap_alloc_new w _
  have x0 := (block_cells b0).1 0
  have x4 := (block_cells b0).1 4
  have x5 := (block_cells b0).1 5
  simp only [List.getElem?_toArray, List.getElem?_cons_zero, List.getElem?_cons_succ] at x0 x4 x5
  replace x0 := x0.trans (congrArg (fun z => some (Value.int .i8 z)) hk)
  have hC0 : In.Cst B ib fb i b at' kb mb lo hi md (.slice (some ⟨nb, no, none⟩) l.length cn) tv va l ts N ah bs W0 st sv := hC.keep (In.Kp.below B0) (hC.is.below B0) B0.size
  have HF0 : Aside (In.Fy B ib lo hi w W0) := In.Fy.below B0
  have HKK : Aside (x.kind = 10) := hk
  have HH : Aside (∀ P : List (Nat × Ty × Int), In.wishes x τ tk = P → (In.wishes x τ tk).foldl (In.wish x tk kx) st = P.foldl (In.wish x tk kx) st) := fun P h => by rw [h]
  have HWS : Aside (In.wishes x τ tk = In.each tk.length .ti 8) := by
    show _ = _
    unfold In.wishes
    simp only [hk, Int.reduceEq, if_false, if_true, or_self, or_true, true_or, or_false, false_or]
  have hcall : Calls Tryz.prog 123 #[.pointer (some ⟨ib, 0, none⟩), .pointer (some ⟨b, 0, none⟩), .string ⟨#[105]⟩, .int .i64 8] W0 (In.CsEnd B ib fb i b at' kb mb lo hi md (.slice (some ⟨nb, no, none⟩) l.length cn) tv va l ts N ah bs W0 ((In.each st.1.length .ti 8).foldl (In.wish x tk kx) st)) := castEach_any B ib fb i b at' kb mb lo hi m md _ _ va _ l ts N ah bs W0 st x tk kx hC0 hK hx hl .ti 8 hm (by omega) (by omega)
  have HN2 : Aside (tk.length = st.1.length) := hn.symm
  clear hk
  go_enter Tryz.func64, Tryz.ntmps64
  go_wp2_with fail
  go_region
  rw [← hW0]
  clear hW0 q0 q1 q2 q3 q4 q5 q6 q7 c0 c1 c2 c3 c4 c5 cz d0 d1 d2 d3 dz hnd hC b0 B0
  clear hn hn2
  go_wp2_with fail
  refine hcall.mono ?_
  rintro e w2 ⟨rfl, hF2, hC2⟩
  have HF2 : Aside (In.Fy B ib lo hi w w2) := HF0.out.trans hF2
  clear hF2 hC0
  go_wp2_with fail
  go_end0
  rw [HWS.out]
  rw [HN2.out]
  exact ⟨rfl, HF2.out, hC2⟩

set_option maxHeartbeats 8000000 in
theorem casts_11 (B ib fb i b at' kb mb lo hi m : Nat) (md : ByteArray) (nv tv va sv : Value) (l : List Nd) (ts : List Ty) (N : List (List UInt8)) (ah : List Nd) (bs : List Nat) (w : World) (st : List In.PT × List In.Si) (x : Nd) (τ : Ty) (tk : List Ty) (kx : List Nd) (hC : In.Cst B ib fb i b at' kb mb lo hi md nv tv va l ts N ah bs w st sv) (hK : In.Kd2 l ts (st.1.map In.PT.plc) tk kx) (hx : l[at']? = some x) (hl : l.length ≤ 100000) (hτ : ts[at']? = some τ) (h64 : ∀ t ∈ ts, (enc t).length ≤ 64) (hG : In.GdN x τ tk) (hm : In.AhB m st.1) (hm2 : m + st.1.length + 5 ≤ 1000000) (hss : st.2.length + st.1.length + 5 ≤ 100000) (hN : Nod x 11) :
    Calls Tryz.prog 64 #[.pointer (some ⟨ib, 0, none⟩), .pointer (some ⟨b, 0, none⟩)] w (In.CsEnd B ib fb i b at' kb mb lo hi md nv tv va l ts N ah bs w ((In.wishes x τ tk).foldl (In.wish x tk kx) st)) := by
  have hk : x.kind = 11 := hN.kind
  have hn : st.1.length = tk.length := by have := hK.len; simpa using this.symm
  have hn2 : st.1.length = 2 := by
    have h1 := hN.kids (by decide)
    have h2 := hG.kids
    have h3 : Tr.arK ((11 : Nat) : Int) = 2 := by decide
    omega
  obtain ⟨c0, c1, c2, c3, c4, c5, cz⟩ := hC.is.cells
  obtain ⟨d0, d1, d2, d3, dz, -, -⟩ := hC.pn.cells
  obtain ⟨an, cn, rfl⟩ := hC.is.no.form
  obtain ⟨nb, no, rfl, hcn, hnb, hnd⟩ := hC.is.no.at hx
  have q0 := hnd 0 _ rfl
  rw [Nat.add_zero] at q0
  have q1 := hnd 1 _ rfl
  have q2 := hnd 2 _ rfl
  have q3 := hnd 3 _ rfl
  have q4 := hnd 4 _ rfl
  have q5 := hnd 5 _ rfl
  have q6 := hnd 6 _ rfl
  have q7 := hnd 7 _ rfl
  have hat : at' < l.length := (List.getElem?_eq_some_iff.1 hx).1
  have hat' : (at' : Int) < (l.length : Int) := by omega
  have hat0 : (0 : Int) ≤ (at' : Int) := by omega
  have hbz : b < w.heap.size := by have := hC.lt; have := hC.types; omega
  have hibz : ib < w.heap.size := by have := hC.is.lt; omega
  obtain ⟨W0, hW0⟩ : ∃ W0, W0 = (w.alloc (.cells #[.int .i8 x.kind, .int .i64 x.kids, .int .i64 x.n, .string x.s, .string x.t, .string x.u, .int .i64 x.ln, .int .i64 x.co] 72)).drew := ⟨_, rfl⟩
  have B0 : Below w.heap.size w W0 := by rw [hW0]; exact below_drew ((Below.refl _ _).alloc (Nat.le_refl _) _)
  have b0 : W0.heap[w.heap.size]? = some (.cells #[.int .i8 x.kind, .int .i64 x.kids, .int .i64 x.n, .string x.s, .string x.t, .string x.u, .int .i64 x.ln, .int .i64 x.co] 72 (0, 0)) := by rw [hW0]; exact heap_alloc_new w _
  have x0 := (block_cells b0).1 0
  have x4 := (block_cells b0).1 4
  have x5 := (block_cells b0).1 5
  simp only [List.getElem?_toArray, List.getElem?_cons_zero, List.getElem?_cons_succ] at x0 x4 x5
  replace x0 := x0.trans (congrArg (fun z => some (Value.int .i8 z)) hk)
  have hC0 : In.Cst B ib fb i b at' kb mb lo hi md (.slice (some ⟨nb, no, none⟩) l.length cn) tv va l ts N ah bs W0 st sv := hC.keep (In.Kp.below B0) (hC.is.below B0) B0.size
  have HF0 : Aside (In.Fy B ib lo hi w W0) := In.Fy.below B0
  have HKK : Aside (x.kind = 11) := hk
  have HH : Aside (∀ P : List (Nat × Ty × Int), In.wishes x τ tk = P → (In.wishes x τ tk).foldl (In.wish x tk kx) st = P.foldl (In.wish x tk kx) st) := fun P h => by rw [h]
  have HWS : Aside (In.wishes x τ tk = In.each tk.length .ti 8) := by
    show _ = _
    unfold In.wishes
    simp only [hk, Int.reduceEq, if_false, if_true, or_self, or_true, true_or, or_false, false_or]
  have hcall : Calls Tryz.prog 123 #[.pointer (some ⟨ib, 0, none⟩), .pointer (some ⟨b, 0, none⟩), .string ⟨#[105]⟩, .int .i64 8] W0 (In.CsEnd B ib fb i b at' kb mb lo hi md (.slice (some ⟨nb, no, none⟩) l.length cn) tv va l ts N ah bs W0 ((In.each st.1.length .ti 8).foldl (In.wish x tk kx) st)) := castEach_any B ib fb i b at' kb mb lo hi m md _ _ va _ l ts N ah bs W0 st x tk kx hC0 hK hx hl .ti 8 hm (by omega) (by omega)
  have HN2 : Aside (tk.length = st.1.length) := hn.symm
  clear hk
  go_enter Tryz.func64, Tryz.ntmps64
  go_wp2_with fail
  go_region
  rw [← hW0]
  clear hW0 q0 q1 q2 q3 q4 q5 q6 q7 c0 c1 c2 c3 c4 c5 cz d0 d1 d2 d3 dz hnd hC b0 B0
  clear hn hn2
  go_wp2_with fail
  refine hcall.mono ?_
  rintro e w2 ⟨rfl, hF2, hC2⟩
  have HF2 : Aside (In.Fy B ib lo hi w w2) := HF0.out.trans hF2
  clear hF2 hC0
  go_wp2_with fail
  go_end0
  rw [HWS.out]
  rw [HN2.out]
  exact ⟨rfl, HF2.out, hC2⟩

set_option maxHeartbeats 8000000 in
theorem casts_12 (B ib fb i b at' kb mb lo hi m : Nat) (md : ByteArray) (nv tv va sv : Value) (l : List Nd) (ts : List Ty) (N : List (List UInt8)) (ah : List Nd) (bs : List Nat) (w : World) (st : List In.PT × List In.Si) (x : Nd) (τ : Ty) (tk : List Ty) (kx : List Nd) (hC : In.Cst B ib fb i b at' kb mb lo hi md nv tv va l ts N ah bs w st sv) (hK : In.Kd2 l ts (st.1.map In.PT.plc) tk kx) (hx : l[at']? = some x) (hl : l.length ≤ 100000) (hτ : ts[at']? = some τ) (h64 : ∀ t ∈ ts, (enc t).length ≤ 64) (hG : In.GdN x τ tk) (hm : In.AhB m st.1) (hm2 : m + st.1.length + 5 ≤ 1000000) (hss : st.2.length + st.1.length + 5 ≤ 100000) (hN : Nod x 12) :
    Calls Tryz.prog 64 #[.pointer (some ⟨ib, 0, none⟩), .pointer (some ⟨b, 0, none⟩)] w (In.CsEnd B ib fb i b at' kb mb lo hi md nv tv va l ts N ah bs w ((In.wishes x τ tk).foldl (In.wish x tk kx) st)) := by
  have hk : x.kind = 12 := hN.kind
  have hn : st.1.length = tk.length := by have := hK.len; simpa using this.symm
  have hn2 : st.1.length = 2 := by
    have h1 := hN.kids (by decide)
    have h2 := hG.kids
    have h3 : Tr.arK ((12 : Nat) : Int) = 2 := by decide
    omega
  obtain ⟨c0, c1, c2, c3, c4, c5, cz⟩ := hC.is.cells
  obtain ⟨d0, d1, d2, d3, dz, -, -⟩ := hC.pn.cells
  obtain ⟨an, cn, rfl⟩ := hC.is.no.form
  obtain ⟨nb, no, rfl, hcn, hnb, hnd⟩ := hC.is.no.at hx
  have q0 := hnd 0 _ rfl
  rw [Nat.add_zero] at q0
  have q1 := hnd 1 _ rfl
  have q2 := hnd 2 _ rfl
  have q3 := hnd 3 _ rfl
  have q4 := hnd 4 _ rfl
  have q5 := hnd 5 _ rfl
  have q6 := hnd 6 _ rfl
  have q7 := hnd 7 _ rfl
  have hat : at' < l.length := (List.getElem?_eq_some_iff.1 hx).1
  have hat' : (at' : Int) < (l.length : Int) := by omega
  have hat0 : (0 : Int) ≤ (at' : Int) := by omega
  have hbz : b < w.heap.size := by have := hC.lt; have := hC.types; omega
  have hibz : ib < w.heap.size := by have := hC.is.lt; omega
  obtain ⟨W0, hW0⟩ : ∃ W0, W0 = (w.alloc (.cells #[.int .i8 x.kind, .int .i64 x.kids, .int .i64 x.n, .string x.s, .string x.t, .string x.u, .int .i64 x.ln, .int .i64 x.co] 72)).drew := ⟨_, rfl⟩
  have B0 : Below w.heap.size w W0 := by rw [hW0]; exact below_drew ((Below.refl _ _).alloc (Nat.le_refl _) _)
  have b0 : W0.heap[w.heap.size]? = some (.cells #[.int .i8 x.kind, .int .i64 x.kids, .int .i64 x.n, .string x.s, .string x.t, .string x.u, .int .i64 x.ln, .int .i64 x.co] 72 (0, 0)) := by rw [hW0]; exact heap_alloc_new w _
  have x0 := (block_cells b0).1 0
  have x4 := (block_cells b0).1 4
  have x5 := (block_cells b0).1 5
  simp only [List.getElem?_toArray, List.getElem?_cons_zero, List.getElem?_cons_succ] at x0 x4 x5
  replace x0 := x0.trans (congrArg (fun z => some (Value.int .i8 z)) hk)
  have hC0 : In.Cst B ib fb i b at' kb mb lo hi md (.slice (some ⟨nb, no, none⟩) l.length cn) tv va l ts N ah bs W0 st sv := hC.keep (In.Kp.below B0) (hC.is.below B0) B0.size
  have HF0 : Aside (In.Fy B ib lo hi w W0) := In.Fy.below B0
  have HKK : Aside (x.kind = 12) := hk
  have HH : Aside (∀ P : List (Nat × Ty × Int), In.wishes x τ tk = P → (In.wishes x τ tk).foldl (In.wish x tk kx) st = P.foldl (In.wish x tk kx) st) := fun P h => by rw [h]
  have HWS : Aside (In.wishes x τ tk = In.each tk.length .ti 8) := by
    show _ = _
    unfold In.wishes
    simp only [hk, Int.reduceEq, if_false, if_true, or_self, or_true, true_or, or_false, false_or]
  have hcall : Calls Tryz.prog 123 #[.pointer (some ⟨ib, 0, none⟩), .pointer (some ⟨b, 0, none⟩), .string ⟨#[105]⟩, .int .i64 8] W0 (In.CsEnd B ib fb i b at' kb mb lo hi md (.slice (some ⟨nb, no, none⟩) l.length cn) tv va l ts N ah bs W0 ((In.each st.1.length .ti 8).foldl (In.wish x tk kx) st)) := castEach_any B ib fb i b at' kb mb lo hi m md _ _ va _ l ts N ah bs W0 st x tk kx hC0 hK hx hl .ti 8 hm (by omega) (by omega)
  have HN2 : Aside (tk.length = st.1.length) := hn.symm
  clear hk
  go_enter Tryz.func64, Tryz.ntmps64
  go_wp2_with fail
  go_region
  rw [← hW0]
  clear hW0 q0 q1 q2 q3 q4 q5 q6 q7 c0 c1 c2 c3 c4 c5 cz d0 d1 d2 d3 dz hnd hC b0 B0
  clear hn hn2
  go_wp2_with fail
  refine hcall.mono ?_
  rintro e w2 ⟨rfl, hF2, hC2⟩
  have HF2 : Aside (In.Fy B ib lo hi w w2) := HF0.out.trans hF2
  clear hF2 hC0
  go_wp2_with fail
  go_end0
  rw [HWS.out]
  rw [HN2.out]
  exact ⟨rfl, HF2.out, hC2⟩

set_option maxHeartbeats 8000000 in
theorem casts_16 (B ib fb i b at' kb mb lo hi m : Nat) (md : ByteArray) (nv tv va sv : Value) (l : List Nd) (ts : List Ty) (N : List (List UInt8)) (ah : List Nd) (bs : List Nat) (w : World) (st : List In.PT × List In.Si) (x : Nd) (τ : Ty) (tk : List Ty) (kx : List Nd) (hC : In.Cst B ib fb i b at' kb mb lo hi md nv tv va l ts N ah bs w st sv) (hK : In.Kd2 l ts (st.1.map In.PT.plc) tk kx) (hx : l[at']? = some x) (hl : l.length ≤ 100000) (hτ : ts[at']? = some τ) (h64 : ∀ t ∈ ts, (enc t).length ≤ 64) (hG : In.GdN x τ tk) (hm : In.AhB m st.1) (hm2 : m + st.1.length + 5 ≤ 1000000) (hss : st.2.length + st.1.length + 5 ≤ 100000) (hN : Nod x 16) :
    Calls Tryz.prog 64 #[.pointer (some ⟨ib, 0, none⟩), .pointer (some ⟨b, 0, none⟩)] w (In.CsEnd B ib fb i b at' kb mb lo hi md nv tv va l ts N ah bs w ((In.wishes x τ tk).foldl (In.wish x tk kx) st)) := by
  have hk : x.kind = 16 := hN.kind
  have hn : st.1.length = tk.length := by have := hK.len; simpa using this.symm
  have hn2 : st.1.length = 1 := by
    have h1 := hN.kids (by decide)
    have h2 := hG.kids
    have h3 : Tr.arK ((16 : Nat) : Int) = 1 := by decide
    omega
  obtain ⟨c0, c1, c2, c3, c4, c5, cz⟩ := hC.is.cells
  obtain ⟨d0, d1, d2, d3, dz, -, -⟩ := hC.pn.cells
  obtain ⟨an, cn, rfl⟩ := hC.is.no.form
  obtain ⟨nb, no, rfl, hcn, hnb, hnd⟩ := hC.is.no.at hx
  have q0 := hnd 0 _ rfl
  rw [Nat.add_zero] at q0
  have q1 := hnd 1 _ rfl
  have q2 := hnd 2 _ rfl
  have q3 := hnd 3 _ rfl
  have q4 := hnd 4 _ rfl
  have q5 := hnd 5 _ rfl
  have q6 := hnd 6 _ rfl
  have q7 := hnd 7 _ rfl
  have hat : at' < l.length := (List.getElem?_eq_some_iff.1 hx).1
  have hat' : (at' : Int) < (l.length : Int) := by omega
  have hat0 : (0 : Int) ≤ (at' : Int) := by omega
  have hbz : b < w.heap.size := by have := hC.lt; have := hC.types; omega
  have hibz : ib < w.heap.size := by have := hC.is.lt; omega
  obtain ⟨W0, hW0⟩ : ∃ W0, W0 = (w.alloc (.cells #[.int .i8 x.kind, .int .i64 x.kids, .int .i64 x.n, .string x.s, .string x.t, .string x.u, .int .i64 x.ln, .int .i64 x.co] 72)).drew := ⟨_, rfl⟩
  have B0 : Below w.heap.size w W0 := by rw [hW0]; exact below_drew ((Below.refl _ _).alloc (Nat.le_refl _) _)
  have b0 : W0.heap[w.heap.size]? = some (.cells #[.int .i8 x.kind, .int .i64 x.kids, .int .i64 x.n, .string x.s, .string x.t, .string x.u, .int .i64 x.ln, .int .i64 x.co] 72 (0, 0)) := by rw [hW0]; exact heap_alloc_new w _
  have x0 := (block_cells b0).1 0
  have x4 := (block_cells b0).1 4
  have x5 := (block_cells b0).1 5
  simp only [List.getElem?_toArray, List.getElem?_cons_zero, List.getElem?_cons_succ] at x0 x4 x5
  replace x0 := x0.trans (congrArg (fun z => some (Value.int .i8 z)) hk)
  have hC0 : In.Cst B ib fb i b at' kb mb lo hi md (.slice (some ⟨nb, no, none⟩) l.length cn) tv va l ts N ah bs W0 st sv := hC.keep (In.Kp.below B0) (hC.is.below B0) B0.size
  have HF0 : Aside (In.Fy B ib lo hi w W0) := In.Fy.below B0
  have HKK : Aside (x.kind = 16) := hk
  have HH : Aside (∀ P : List (Nat × Ty × Int), In.wishes x τ tk = P → (In.wishes x τ tk).foldl (In.wish x tk kx) st = P.foldl (In.wish x tk kx) st) := fun P h => by rw [h]
  have HWS : Aside (In.wishes x τ tk = In.each tk.length .ti 8) := by
    show _ = _
    unfold In.wishes
    simp only [hk, Int.reduceEq, if_false, if_true, or_self, or_true, true_or, or_false, false_or]
  have hcall : Calls Tryz.prog 123 #[.pointer (some ⟨ib, 0, none⟩), .pointer (some ⟨b, 0, none⟩), .string ⟨#[105]⟩, .int .i64 8] W0 (In.CsEnd B ib fb i b at' kb mb lo hi md (.slice (some ⟨nb, no, none⟩) l.length cn) tv va l ts N ah bs W0 ((In.each st.1.length .ti 8).foldl (In.wish x tk kx) st)) := castEach_any B ib fb i b at' kb mb lo hi m md _ _ va _ l ts N ah bs W0 st x tk kx hC0 hK hx hl .ti 8 hm (by omega) (by omega)
  have HN2 : Aside (tk.length = st.1.length) := hn.symm
  clear hk
  go_enter Tryz.func64, Tryz.ntmps64
  go_wp2_with fail
  go_region
  rw [← hW0]
  clear hW0 q0 q1 q2 q3 q4 q5 q6 q7 c0 c1 c2 c3 c4 c5 cz d0 d1 d2 d3 dz hnd hC b0 B0
  clear hn hn2
  go_wp2_with fail
  refine hcall.mono ?_
  rintro e w2 ⟨rfl, hF2, hC2⟩
  have HF2 : Aside (In.Fy B ib lo hi w w2) := HF0.out.trans hF2
  clear hF2 hC0
  go_wp2_with fail
  go_end0
  rw [HWS.out]
  rw [HN2.out]
  exact ⟨rfl, HF2.out, hC2⟩
end Go.Proofs.YthdlfeejeboboaaGreatDoor
