/- Package insert: casts. Package insert: casts. -/
import Derived.Test.YthdlfeejeboboaaGreatDoorUbe
import Derived.StillTailTactics
import Derived.Deep.RegionWith
import Derived.Test.YthdlfeejeboboaaGreatDoorUbd
namespace Go.Proofs.YthdlfeejeboboaaGreatDoor
open Go.RowKit Go.Maps Ck
open T3.Tp (Ty enc cns met)
open Tr (T Nd nm flat flats)
set_option maxRecDepth 100000
set_option linter.unusedSimpArgs false
set_option linter.unusedVariables false

set_option maxHeartbeats 8000000 in
theorem casts_9 (B ib fb i b at' kb mb lo hi m : Nat) (md : ByteArray) (nv tv va sv : Value) (l : List Nd) (ts : List Ty) (N : List (List UInt8)) (ah : List Nd) (bs : List Nat) (w : World) (st : List In.PT × List In.Si) (x : Nd) (τ : Ty) (tk : List Ty) (kx : List Nd) (hC : In.Cst B ib fb i b at' kb mb lo hi md nv tv va l ts N ah bs w st sv) (hK : In.Kd2 l ts (st.1.map In.PT.plc) tk kx) (hx : l[at']? = some x) (hl : l.length ≤ 100000) (hτ : ts[at']? = some τ) (h64 : ∀ t ∈ ts, (enc t).length ≤ 64) (hG : In.GdN x τ tk) (hm : In.AhB m st.1) (hm2 : m + st.1.length + 5 ≤ 1000000) (hss : st.2.length + st.1.length + 5 ≤ 100000) (hN : Nod x 9) :
    Calls Tryz.prog 64 #[.pointer (some ⟨ib, 0, none⟩), .pointer (some ⟨b, 0, none⟩)] w (In.CsEnd B ib fb i b at' kb mb lo hi md nv tv va l ts N ah bs w ((In.wishes x τ tk).foldl (In.wish x tk kx) st)) := by
  have hk : x.kind = 9 := hN.kind
  have hn : st.1.length = tk.length := by have := hK.len; simpa using this.symm
  have hn2 : st.1.length = 3 := by
    have h1 := hN.kids (by decide)
    have h2 := hG.kids
    have h3 : Tr.arK ((9 : Nat) : Int) = 3 := by decide
    omega
  obtain ⟨c0, c1, c2, c3, c4, c5, cz⟩ := hC.is.cells
  obtain ⟨d0, d1, d2, d3, dz, -, -⟩ := hC.pn.cells
  obtain ⟨an, cn, rfl⟩ := hC.is.no.form
  obtain ⟨nb, no, rfl, hcn, hnb, hnd⟩ := hC.is.no.at hx
  have q0 := hnd 0 _ rfl
  rw [Nat.add_zero] at q0
  have q1 := hnd 1 _ rfl
  have q2 := hnd 2 _ rfl
  have q3 := hnd 3 _ rfl
  have q4 := hnd 4 _ rfl
  have q5 := hnd 5 _ rfl
  have q6 := hnd 6 _ rfl
  have q7 := hnd 7 _ rfl
  have hat : at' < l.length := (List.getElem?_eq_some_iff.1 hx).1
  have hat' : (at' : Int) < (l.length : Int) := by omega
  have hat0 : (0 : Int) ≤ (at' : Int) := by omega
  have hbz : b < w.heap.size := by have := hC.lt; have := hC.types; omega
  have hibz : ib < w.heap.size := by have := hC.is.lt; omega
  obtain ⟨W0, hW0⟩ : ∃ W0, W0 = (w.alloc (.cells #[.int .i8 x.kind, .int .i64 x.kids, .int .i64 x.n, .string x.s, .string x.t, .string x.u, .int .i64 x.ln, .int .i64 x.co] 72)).drew := ⟨_, rfl⟩
  have B0 : Below w.heap.size w W0 := by rw [hW0]; exact below_drew ((Below.refl _ _).alloc (Nat.le_refl _) _)
  have b0 : W0.heap[w.heap.size]? = some (.cells #[.int .i8 x.kind, .int .i64 x.kids, .int .i64 x.n, .string x.s, .string x.t, .string x.u, .int .i64 x.ln, .int .i64 x.co] 72 (0, 0)) := by rw [hW0]; exact heap_alloc_new w _
  have x0 := (block_cells b0).1 0
  have x4 := (block_cells b0).1 4
  have x5 := (block_cells b0).1 5
  simp only [List.getElem?_toArray, List.getElem?_cons_zero, List.getElem?_cons_succ] at x0 x4 x5
  replace x0 := x0.trans (congrArg (fun z => some (Value.int .i8 z)) hk)
  have hC0 : In.Cst B ib fb i b at' kb mb lo hi md (.slice (some ⟨nb, no, none⟩) l.length cn) tv va l ts N ah bs W0 st sv := hC.keep (In.Kp.below B0) (hC.is.below B0) B0.size
  have HF0 : Aside (In.Fy B ib lo hi w W0) := In.Fy.below B0
  have HKK : Aside (x.kind = 9) := hk
  have HH : Aside (∀ P : List (Nat × Ty × Int), In.wishes x τ tk = P → (In.wishes x τ tk).foldl (In.wish x tk kx) st = P.foldl (In.wish x tk kx) st) := fun P h => by rw [h]
  have HWS : Aside (In.wishes x τ tk = [(0, .tb, 5), (1, τ, 6), (2, τ, 7)]) := by
    show _ = _
    unfold In.wishes
    simp only [hk, Int.reduceEq, if_false, if_true, or_self, or_true, true_or, or_false, false_or]
  have hcall : Calls Tryz.prog 121 #[.pointer (some ⟨ib, 0, none⟩), .pointer (some ⟨b, 0, none⟩), .int .i64 0, .string ⟨#[98]⟩, .int .i64 5] W0 (In.CsEnd B ib fb i b at' kb mb lo hi md (.slice (some ⟨nb, no, none⟩) l.length cn) tv va l ts N ah bs W0 (In.wish x tk kx st (0, .tb, 5))) := cast_any B ib fb i b at' kb mb lo hi m md _ _ va _ l ts N ah bs W0 st x tk kx hC0 hK hx hl 0 (by omega) (.tb) 5 hm (by omega) (by omega)
  have hwk := In.Wk.wish hK x (k := 0) (by omega) .tb 5
  have hwk2 := hwk.trans (In.Wk.wish (st := In.wish x tk kx st (0, .tb, 5)) (by rw [hwk.plc]; exact hK) x (k := 1) (by rw [hwk.len]; omega) τ 6)
  have HC2 : Aside (∀ (V : World) (sv' : Value), In.Cst B ib fb i b at' kb mb lo hi md (.slice (some ⟨nb, no, none⟩) l.length cn) tv va l ts N ah bs V (In.wish x tk kx st (0, .tb, 5)) sv' → Calls Tryz.prog 121 #[.pointer (some ⟨ib, 0, none⟩), .pointer (some ⟨b, 0, none⟩), .int .i64 1, .string (S (enc τ)), .int .i64 6] V (In.CsEnd B ib fb i b at' kb mb lo hi md (.slice (some ⟨nb, no, none⟩) l.length cn) tv va l ts N ah bs V (In.wish x tk kx (In.wish x tk kx st (0, .tb, 5)) (1, τ, 6)))) := fun V sv' hV => cast_any B ib fb i b at' kb mb lo hi (m + 1) md _ _ va _ l ts N ah bs V _ x tk kx hV (by rw [hwk.plc]; exact hK) hx hl 1 (by rw [hwk.len]; omega) (τ) 6 (hwk.ah m hm) (by omega) (by have := hwk.sites; omega)
  have HC3 : Aside (∀ (V : World) (sv' : Value), In.Cst B ib fb i b at' kb mb lo hi md (.slice (some ⟨nb, no, none⟩) l.length cn) tv va l ts N ah bs V (In.wish x tk kx (In.wish x tk kx st (0, .tb, 5)) (1, τ, 6)) sv' → Calls Tryz.prog 121 #[.pointer (some ⟨ib, 0, none⟩), .pointer (some ⟨b, 0, none⟩), .int .i64 2, .string (S (enc τ)), .int .i64 7] V (In.CsEnd B ib fb i b at' kb mb lo hi md (.slice (some ⟨nb, no, none⟩) l.length cn) tv va l ts N ah bs V (In.wish x tk kx (In.wish x tk kx (In.wish x tk kx st (0, .tb, 5)) (1, τ, 6)) (2, τ, 7)))) := fun V sv' hV => cast_any B ib fb i b at' kb mb lo hi (m + (1 + 1)) md _ _ va _ l ts N ah bs V _ x tk kx hV (by rw [hwk2.plc]; exact hK) hx hl 2 (by rw [hwk2.len]; omega) (τ) 7 (hwk2.ah m hm) (by omega) (by have := hwk2.sites; omega)
  have hmix : Tryz.prog.follows .mixedOrders = true := by kernel_rfl
  obtain ⟨at1, ct, htv⟩ := txs_form hC0.is.ty
  have htk' : at' < ts.length := (List.getElem?_eq_some_iff.1 hτ).1
  have htk'' : (at' : Int) < ((ts.map enc).length : Int) := by rw [List.length_map]; omega
  have htk3 : at' < (ts.map enc).length := by rw [List.length_map]; omega
  have HTY : Aside (∀ (V : World) (sv' : Value) (st' : List In.PT × List In.Si), In.Cst B ib fb i b at' kb mb lo hi md (.slice (some ⟨nb, no, none⟩) l.length cn) tv va l ts N ah bs V st' sv' → ∃ tb to', tv = .slice (some ⟨tb, to', none⟩) (ts.map enc).length ct ∧ (ts.map enc).length ≤ ct ∧ V.cell? ⟨ib, 2, none⟩ = some tv ∧ V.cell? ⟨b, 0, none⟩ = some (.int .i64 (at' : Int)) ∧ V.cell? ⟨tb, to' + at', none⟩ = some (.string (S (enc τ)))) := fun V sv' st' hV => by
    obtain ⟨_, _, k2, _, _, _, _⟩ := hV.is.cells
    obtain ⟨k3, _⟩ := hV.pn.cells
    have hv2 := hV.is.ty
    rw [htv] at hv2
    obtain ⟨tb, to', k4, k5, _, k6⟩ := txs_at hv2 (k := at') (p := enc τ) (by rw [List.getElem?_map, hτ]; rfl)
    exact ⟨tb, to', by rw [htv, k4], k5, k2, k3, k6⟩
  clear hk
  go_enter Tryz.func64, Tryz.ntmps64
  go_wp2_with fail
  go_region
  rw [← hW0]
  clear hW0 q0 q1 q2 q3 q4 q5 q6 q7 c0 c1 c2 c3 c4 c5 cz d0 d1 d2 d3 dz hnd hC b0 B0
  clear hwk hwk2 htv
  generalize S (enc τ) = sτ at *
  generalize (ts.map enc).length = tn at *
  go_wp2_with fail
  refine hcall.mono ?_
  rintro e w2 ⟨rfl, hF2, sv2, hC2⟩
  have HF2 : Aside (In.Fy B ib lo hi w w2) := HF0.out.trans hF2
  have hcall2 := fun n => HC2.out (w2.drewN n) sv2 (Cst.drewN hC2 n)
  obtain ⟨tb, to', htv2, hct, k2, k3, k6⟩ := HTY.out w2 sv2 _ hC2
  rw [htv2] at k2
  clear hF2 hC0 hC2 htv2
  go_wp2_with fail
  go_still_tail 12, hmix
  go_wp2_with fail
  refine (hcall2 _).mono ?_
  rintro e w3 ⟨rfl, hF3, sv3, hC3⟩
  have HF3 : Aside (In.Fy B ib lo hi w w3) := HF2.out.trans ⟨hF3.os, hF3.tape, hF3.output, hF3.size, hF3.block⟩
  have hcall3 := fun n => HC3.out (w3.drewN n) sv3 (Cst.drewN hC3 n)
  obtain ⟨tb3, to3, htv3, hct3, j2, j3, j6⟩ := HTY.out w3 sv3 _ hC3
  rw [htv3] at j2
  clear hF3 hC3 htv3 k2 k3 k6
  go_wp2_with fail
  go_still_tail 12, hmix
  go_wp2_with fail
  refine (hcall3 _).mono ?_
  rintro e w4 ⟨rfl, hF4, hC4⟩
  have HF4 : Aside (In.Fy B ib lo hi w w4) := HF3.out.trans ⟨hF4.os, hF4.tape, hF4.output, hF4.size, hF4.block⟩
  clear hF4
  go_wp2_with fail
  go_end0
  rw [HWS.out]
  exact ⟨rfl, HF4.out, hC4⟩
end Go.Proofs.YthdlfeejeboboaaGreatDoor
namespace Go.Proofs.YthdlfeejeboboaaGreatDoor
open Go.RowKit Go.Maps Ck
open T3.Tp (Ty enc cns met)
open Tr (T Nd nm flat flats)
set_option maxRecDepth 100000
set_option linter.unusedSimpArgs false
set_option linter.unusedVariables false

set_option maxHeartbeats 8000000 in
theorem casts_21 (B ib fb i b at' kb mb lo hi m : Nat) (md : ByteArray) (nv tv va sv : Value) (l : List Nd) (ts : List Ty) (N : List (List UInt8)) (ah : List Nd) (bs : List Nat) (w : World) (st : List In.PT × List In.Si) (x : Nd) (τ : Ty) (tk : List Ty) (kx : List Nd) (hC : In.Cst B ib fb i b at' kb mb lo hi md nv tv va l ts N ah bs w st sv) (hK : In.Kd2 l ts (st.1.map In.PT.plc) tk kx) (hx : l[at']? = some x) (hl : l.length ≤ 100000) (hτ : ts[at']? = some τ) (h64 : ∀ t ∈ ts, (enc t).length ≤ 64) (hG : In.GdN x τ tk) (hm : In.AhB m st.1) (hm2 : m + st.1.length + 5 ≤ 1000000) (hss : st.2.length + st.1.length + 5 ≤ 100000) (hN : Nod x 21) :
    Calls Tryz.prog 64 #[.pointer (some ⟨ib, 0, none⟩), .pointer (some ⟨b, 0, none⟩)] w (In.CsEnd B ib fb i b at' kb mb lo hi md nv tv va l ts N ah bs w ((In.wishes x τ tk).foldl (In.wish x tk kx) st)) := by
  have hk : x.kind = 21 := hN.kind
  have hn : st.1.length = tk.length := by have := hK.len; simpa using this.symm
  obtain ⟨c0, c1, c2, c3, c4, c5, cz⟩ := hC.is.cells
  obtain ⟨d0, d1, d2, d3, dz, -, -⟩ := hC.pn.cells
  obtain ⟨an, cn, rfl⟩ := hC.is.no.form
  obtain ⟨nb, no, rfl, hcn, hnb, hnd⟩ := hC.is.no.at hx
  have q0 := hnd 0 _ rfl
  rw [Nat.add_zero] at q0
  have q1 := hnd 1 _ rfl
  have q2 := hnd 2 _ rfl
  have q3 := hnd 3 _ rfl
  have q4 := hnd 4 _ rfl
  have q5 := hnd 5 _ rfl
  have q6 := hnd 6 _ rfl
  have q7 := hnd 7 _ rfl
  have hat : at' < l.length := (List.getElem?_eq_some_iff.1 hx).1
  have hat' : (at' : Int) < (l.length : Int) := by omega
  have hat0 : (0 : Int) ≤ (at' : Int) := by omega
  have hbz : b < w.heap.size := by have := hC.lt; have := hC.types; omega
  have hibz : ib < w.heap.size := by have := hC.is.lt; omega
  obtain ⟨W0, hW0⟩ : ∃ W0, W0 = (w.alloc (.cells #[.int .i8 x.kind, .int .i64 x.kids, .int .i64 x.n, .string x.s, .string x.t, .string x.u, .int .i64 x.ln, .int .i64 x.co] 72)).drew := ⟨_, rfl⟩
  have B0 : Below w.heap.size w W0 := by rw [hW0]; exact below_drew ((Below.refl _ _).alloc (Nat.le_refl _) _)
  have b0 : W0.heap[w.heap.size]? = some (.cells #[.int .i8 x.kind, .int .i64 x.kids, .int .i64 x.n, .string x.s, .string x.t, .string x.u, .int .i64 x.ln, .int .i64 x.co] 72 (0, 0)) := by rw [hW0]; exact heap_alloc_new w _
  have x0 := (block_cells b0).1 0
  have x4 := (block_cells b0).1 4
  have x5 := (block_cells b0).1 5
  simp only [List.getElem?_toArray, List.getElem?_cons_zero, List.getElem?_cons_succ] at x0 x4 x5
  replace x0 := x0.trans (congrArg (fun z => some (Value.int .i8 z)) hk)
  have hC0 : In.Cst B ib fb i b at' kb mb lo hi md (.slice (some ⟨nb, no, none⟩) l.length cn) tv va l ts N ah bs W0 st sv := hC.keep (In.Kp.below B0) (hC.is.below B0) B0.size
  have HF0 : Aside (In.Fy B ib lo hi w W0) := In.Fy.below B0
  have HKK : Aside (x.kind = 21) := hk
  have HH : Aside (∀ P : List (Nat × Ty × Int), In.wishes x τ tk = P → (In.wishes x τ tk).foldl (In.wish x tk kx) st = P.foldl (In.wish x tk kx) st) := fun P h => by rw [h]
  obtain ⟨aτ, haτ⟩ := hG.list hk
  have HWS : Aside (In.wishes x τ tk = In.each tk.length aτ 13) := by
    show _ = _
    unfold In.wishes
    rw [haτ]
    simp only [hk, Int.reduceEq, if_false, if_true, or_self, or_true, true_or, or_false, false_or]
    rfl
  have HEA : Aside (∀ (V : World), Below W0.heap.size W0 V → Calls Tryz.prog 123 #[.pointer (some ⟨ib, 0, none⟩), .pointer (some ⟨b, 0, none⟩), .string (S (enc aτ)), .int .i64 13] V (In.CsEnd B ib fb i b at' kb mb lo hi md (.slice (some ⟨nb, no, none⟩) l.length cn) tv va l ts N ah bs V ((In.each st.1.length aτ 13).foldl (In.wish x tk kx) st))) := fun V hV => castEach_any B ib fb i b at' kb mb lo hi m md _ _ va _ l ts N ah bs V st x tk kx (hC0.keep (In.Kp.below hV) (hC0.is.below hV) hV.size) hK hx hl aτ 13 hm (by omega) (by omega)
  have HN2 : Aside (tk.length = st.1.length) := hn.symm
  have hτ64 := h64 τ (List.mem_of_getElem? hτ)
  have HPA : Aside (∀ V, Calls Tryz.prog 114 #[.string (S (enc τ))] V fun e w' => ∃ v, e = .returned v ∧ w'.ownsRow V.heap.size 9 1 v (T3.Tp.kids τ).length (T3.tcells ((T3.Tp.kids τ).map enc)) ∧ Below V.heap.size V w') := fun V => T3.parts_yes τ hτ64 V
  have HX : Aside (∀ (w1 : World) (v1 : Value) (B0 : Nat), w1.ownsRow B0 9 1 v1 (T3.Tp.kids τ).length (T3.tcells ((T3.Tp.kids τ).map enc)) → ∃ g cap, v1 = .slice (some ⟨g, 0, none⟩) 1 cap ∧ 1 ≤ cap ∧ w1.cell? ⟨g, 0, none⟩ = some (.string (S (enc aτ)))) := fun w1 v1 B0 h1 => by
    rw [haτ] at h1
    obtain ⟨g, cap, r1, r2, r3, r4⟩ := own_cells h1 (by simp [T3.Tp.kids])
    exact ⟨g, cap, r1, r2, by rw [r4 0 (by simp [T3.Tp.kids])]; rfl⟩
  obtain ⟨at1, ct, htv⟩ := txs_form hC0.is.ty
  have htk' : at' < ts.length := (List.getElem?_eq_some_iff.1 hτ).1
  have htk'' : (at' : Int) < ((ts.map enc).length : Int) := by rw [List.length_map]; omega
  have htk3 : at' < (ts.map enc).length := by rw [List.length_map]; omega
  have HTY : Aside (∀ (V : World) (sv' : Value) (st' : List In.PT × List In.Si), In.Cst B ib fb i b at' kb mb lo hi md (.slice (some ⟨nb, no, none⟩) l.length cn) tv va l ts N ah bs V st' sv' → ∃ tb to', tv = .slice (some ⟨tb, to', none⟩) (ts.map enc).length ct ∧ (ts.map enc).length ≤ ct ∧ V.cell? ⟨ib, 2, none⟩ = some tv ∧ V.cell? ⟨b, 0, none⟩ = some (.int .i64 (at' : Int)) ∧ V.cell? ⟨tb, to' + at', none⟩ = some (.string (S (enc τ)))) := fun V sv' st' hV => by
    obtain ⟨_, _, k2, _, _, _, _⟩ := hV.is.cells
    obtain ⟨k3, _⟩ := hV.pn.cells
    have hv2 := hV.is.ty
    rw [htv] at hv2
    obtain ⟨tb, to', k4, k5, _, k6⟩ := txs_at hv2 (k := at') (p := enc τ) (by rw [List.getElem?_map, hτ]; rfl)
    exact ⟨tb, to', by rw [htv, k4], k5, k2, k3, k6⟩
  obtain ⟨tb, to', htv2, hct, k2, k3, k6⟩ := HTY.out W0 _ _ hC0
  rw [htv2] at k2
  have HS1 : Aside (∀ w1, Below W0.drew.heap.size W0.drew w1 → w1.cell? ⟨ib, 2, none⟩ = some (.slice (some ⟨tb, to', none⟩) (ts.map enc).length ct) ∧ w1.cell? ⟨b, 0, none⟩ = some (.int .i64 (at' : Int)) ∧ w1.cell? ⟨tb, to' + at', none⟩ = some (.string (S (enc τ)))) := fun w1 hw1 => by
    have hw2 : Below W0.heap.size W0 w1 := ⟨hw1.os, hw1.tape, hw1.output, hw1.size, hw1.block⟩
    obtain ⟨tb2, to2, e1, e2, e3, e4, e5⟩ := HTY.out w1 _ _ (hC0.keep (In.Kp.below hw2) (hC0.is.below hw2) hw2.size)
    rw [htv2] at e1
    cases e1
    rw [htv2] at e3
    exact ⟨e3, e4, e5⟩
  have HS2 : Aside (∀ (V : World) (sv' : Value) (st' : List In.PT × List In.Si), In.Cst B ib fb i b at' kb mb lo hi md (.slice (some ⟨nb, no, none⟩) l.length cn) tv va l ts N ah bs V st' sv' → V.cell? ⟨ib, 2, none⟩ = some (.slice (some ⟨tb, to', none⟩) (ts.map enc).length ct) ∧ V.cell? ⟨b, 0, none⟩ = some (.int .i64 (at' : Int)) ∧ V.cell? ⟨tb, to' + at', none⟩ = some (.string (S (enc τ)))) := fun V sv' st' hV => by
    obtain ⟨tb2, to2, e1, e2, e3, e4, e5⟩ := HTY.out V _ _ hV
    rw [htv2] at e1
    cases e1
    rw [htv2] at e3
    exact ⟨e3, e4, e5⟩
  clear hk
  go_enter Tryz.func64, Tryz.ntmps64
  go_wp2_with fail
  go_region
  rw [← hW0]
  clear hW0 q0 q1 q2 q3 q4 q5 q6 q7 c0 c1 c2 c3 c4 c5 cz d0 d1 d2 d3 dz hnd hC b0 B0
  clear htv htv2 HTY hn hC0 hτ64 haτ hτ hG
  generalize hsτ : S (enc τ) = sτ at *
  clear hsτ
  generalize hsa : S (enc aτ) = sa at *
  clear hsa
  generalize (ts.map enc).length = tn at *
  go_wp2_with fail
  go_region_with (first | (go_at_call 114; refine (HPA.out _).mono ?_; rintro e w1 ⟨v1, rfl, ho1, hB1⟩; obtain ⟨g, cap, rfl, hcap, hg0⟩ := HX.out _ _ _ ho1) | (go_at_call 123; refine (HEA.out _ ⟨hB1.os, hB1.tape, hB1.output, hB1.size, hB1.block⟩).mono ?_; rintro e w2 ⟨rfl, hF2, sv2, hC2⟩))
  all_goals
    have HF2 : Aside (In.Fy B ib lo hi w w2) := HF0.out.trans ((In.Fy.below (w := W0) (w' := w1) ⟨hB1.os, hB1.tape, hB1.output, hB1.size, hB1.block⟩).trans hF2)
    go_wp2_with fail
    go_end0
    rw [HWS.out, HN2.out]
    exact ⟨rfl, HF2.out, sv2, hC2⟩
end Go.Proofs.YthdlfeejeboboaaGreatDoor
