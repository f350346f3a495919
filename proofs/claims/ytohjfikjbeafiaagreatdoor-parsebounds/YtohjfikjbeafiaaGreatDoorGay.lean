/- The face of the parser (parse.Modules). What Expr, Type and Modules answer. Four sources, read by the plain functions. The one closed call that every statement of this layer makes first: it answers true. -/
import Derived.Test.YtohjfikjbeafiaaGreatDoorGaw
import Derived.Test.YtohjfikjbeafiaaGreatDoorGax
import Derived.KernelRfl
import Derived.Lib.SlBytesConst
namespace Go.Proofs.YtohjfikjbeafiaaGreatDoor
open Go.RowKit Ps
set_option maxRecDepth 100000
set_option linter.unusedSimpArgs false

set_option maxHeartbeats 8000000 in
theorem wholeM_any (w : World) (v : Value) (bs : List UInt8) (hs : T1.IsSrc w v bs) (hl : bs.length ≤ 60000) (hv : T1.Vars w) (h2 : 6 ≤ w.heap.size) :
    Calls Tryz.prog 31 #[v, .func (.func 32) #[] #[]] w (WhEnd OwnM (.slice none 0 0) w (modsF bs)) := by
  have hmf : ∀ (fn : Fn) (first cap : Array Value) (w : World), (Instr.makeFunc fn first cap).run Tryz.prog w = .ok (.func fn first cap) w := fun _ _ _ _ => rfl
  have hB2 : Below w.heap.size w ((w.alloc (.cells #[.int .i64 0] 26)).alloc (.cells #[.int .i64 0, .int .i64 0] 28)) := ((Below.refl _ _).alloc (Nat.le_refl _) _).alloc (by simp) _
  have hT := T1.tokens_src ((w.alloc (.cells #[.int .i64 0] 26)).alloc (.cells #[.int .i64 0, .int .i64 0] 28)) v bs (hs.kept hB2) (by omega) (hv.below hB2) (by simp; omega)
  have hz2 : ((w.alloc (.cells #[.int .i64 0] 26)).alloc (.cells #[.int .i64 0, .int .i64 0] 28)).heap.size = w.heap.size + 2 := by simp
  have kA2 : ((w.alloc (.cells #[.int .i64 0] 26)).alloc (.cells #[.int .i64 0, .int .i64 0] 28)).heap[w.heap.size]? = some (.cells #[.int .i64 0] 26) := (Below.heap_alloc _ _ _ (by simp)).trans (heap_alloc_new w (.cells #[.int .i64 0] 26))
  have kB2 : ((w.alloc (.cells #[.int .i64 0] 26)).alloc (.cells #[.int .i64 0, .int .i64 0] 28)).heap[w.heap.size + 1]? = some (.cells #[.int .i64 0, .int .i64 0] 28) := by
    have h := heap_alloc_new (w.alloc (.cells #[.int .i64 0] 26)) (.cells #[.int .i64 0, .int .i64 0] 28)
    rw [show (w.alloc (.cells #[.int .i64 0] 26)).heap.size = w.heap.size + 1 by simp] at h
    exact h
  obtain ⟨va, vc, rfl⟩ := hs.shape
  cases hall : T1.Tx.all bs with
  | error q =>
    obtain ⟨er, k⟩ := q
    rw [hall] at hT
    have hF : Aside (modsF bs = .error (er, plc bs k)) := by show _ = _; unfold modsF srcW; rw [hall]
    have her : er ≠ 0 := by have := all_err _ _ hall; omega
    have her' : (er != 0) = true := by simpa using her
    have her2 : (er == 0) = false := by simpa using her
    clear hall hs
    go_enter_defers Tryz.func31, Tryz.ntmps31
    go_wp2_with fail
    refine hT.mono ?_
    rintro e3 w3 ⟨hB3, rfl⟩
    have kA := (hB3.block (w.heap.size) (by omega)).trans kA2
    have kB := (hB3.block (w.heap.size + 1) (by omega)).trans kB2
    have cA : w3.cell? ⟨w.heap.size, 0, none⟩ = some (.int .i64 0) := (block_cells kA).1 0
    have cB : w3.cell? ⟨w.heap.size + 1, 0, none⟩ = some (.int .i64 0) := (block_cells kB).1 0
    have cB2 : w3.cell? ⟨w.heap.size + 1, 1, none⟩ = some (.int .i64 0) := (block_cells kB).1 1
    have fA := (block_cells kA).2
    have fB := (block_cells kB).2
    have hBw : Below w.heap.size w w3 := hB2.trans (hB3.mono (by omega))
    have HP : Aside (plc bs k = ((T1.Tx.lnTo bs k : Int) + 1, (k : Int) - (T1.Tx.stTo bs k : Int) + 1)) := rfl
    generalize (T1.Tx.lnTo bs k : Int) + 1 = pln at *
    generalize (k : Int) - (T1.Tx.stTo bs k : Int) + 1 = pco at *
    have hst : ∃ w4, w4 = ((w3.setCell ⟨w.heap.size, 0, none⟩ (.int .i64 er)).setCell ⟨w.heap.size + 1, 0, none⟩ (.int .i64 pln)).setCell ⟨w.heap.size + 1, 1, none⟩ (.int .i64 pco) := ⟨_, rfl⟩
    obtain ⟨w4, hw4⟩ := hst
    have kA4 : w4.heap[w.heap.size]? = some (.cells #[.int .i64 er] 26 (0, 0)) := by rw [hw4, set_keep (by omega), set_keep (by omega)]; simp [World.setCell, Array.getElem?_modify, kA]
    have kB4 : w4.heap[w.heap.size + 1]? = some (.cells #[.int .i64 pln, .int .i64 pco] 28 (0, 0)) := by
      have h1 : (w3.setCell ⟨w.heap.size, 0, none⟩ (.int .i64 er)).heap[w.heap.size + 1]? = some (.cells #[.int .i64 0, .int .i64 0] 28 (0, 0)) := (set_keep (by omega)).trans kB
      rw [hw4]; simp [World.setCell, Array.getElem?_modify] at h1 ⊢; simp [h1, kB]
    have hB4 : Below w.heap.size w w4 := by rw [hw4]; exact ((hBw.setCell (by simp) _).setCell (by simp) _).setCell (by simp) _
    have HW4 : Aside (((w3.setCell ⟨w.heap.size, 0, none⟩ (.int .i64 er)).setCell ⟨w.heap.size + 1, 0, none⟩ (.int .i64 pln)).setCell ⟨w.heap.size + 1, 1, none⟩ (.int .i64 pco) = w4) := hw4.symm
    have HB : Aside (∀ d e f, Below w.heap.size w ((((w4.setCell ⟨w.heap.size, 0, none⟩ d).setCell ⟨w.heap.size + 1, 0, none⟩ e).setCell ⟨w.heap.size + 1, 1, none⟩ f).drew)) := fun d e f => below_drew (((hB4.setCell (by simp) _).setCell (by simp) _).setCell (by simp) _)
    have dA : w4.cell? ⟨w.heap.size, 0, none⟩ = some (.int .i64 er) := (block_cells kA4).1 0
    have dB : w4.cell? ⟨w.heap.size + 1, 0, none⟩ = some (.int .i64 pln) := (block_cells kB4).1 0
    have dB2 : w4.cell? ⟨w.heap.size + 1, 1, none⟩ = some (.int .i64 pco) := (block_cells kB4).1 1
    have gA := (block_cells kA4).2
    have gB := (block_cells kB4).2
    clear hT kA kB kA2 kB2 hB3 hB2 hz2 kA4 kB4 hw4 hBw hB4
    go_upto_region 3 with fail
    rw [HW4.out]
    clear HW4 cA cB cB2 fA fB
    go_region
    all_goals
      go_wp2_with fail
      simp [bodyPostD, Leaves, settle, results, Tryz.results31, go_sem, dA, dB, dB2]
      exact ⟨HB.out _ _ _, by rw [hF.out, HP.out]⟩
  | ok l =>
    rw [hall] at hT
    have hlen := pts_len hall
    have hTS := pts_s hall hl
    have HF : Aside (modsF bs = finW (ptsOf bs l) (ptEnd bs) (modsV (ptsOf bs l) (ptEnd bs))) := by show _ = _; unfold modsF srcW; rw [hall]
    have hlen2 : l.length = (ptsOf bs l).length := by simp [ptsOf]
    have hend : ptEnd bs = ⟨0, 0, [], (T1.Tx.lnTo bs bs.length : Int) + 1, (bs.length : Int) - (T1.Tx.stTo bs bs.length : Int) + 1⟩ := rfl
    have he : (ptEnd bs).kind = 0 := rfl
    clear hall
    generalize hLe : ptsOf bs l = L at *
    have hcs : T1.tkCells bs l = (L.map tcs).flatten := by rw [tk_cells, hLe]
    clear hLe
    go_enter_defers Tryz.func31, Tryz.ntmps31
    go_wp2_with fail
    refine hT.mono ?_
    rintro e3 w3 ⟨hB3, v3, rfl, hown3⟩
    have kA := (hB3.block (w.heap.size) (by omega)).trans kA2
    have kB := (hB3.block (w.heap.size + 1) (by omega)).trans kB2
    have cA : w3.cell? ⟨w.heap.size, 0, none⟩ = some (.int .i64 0) := (block_cells kA).1 0
    have cB : w3.cell? ⟨w.heap.size + 1, 0, none⟩ = some (.int .i64 0) := (block_cells kB).1 0
    have cB2 : w3.cell? ⟨w.heap.size + 1, 1, none⟩ = some (.int .i64 0) := (block_cells kB).1 1
    have fA := (block_cells kA).2
    have fB := (block_cells kB).2
    have hBw : Below w.heap.size w w3 := hB2.trans (hB3.mono (by omega))
    rw [hcs, hlen2] at hown3
    have hz3 := hB3.size
    -- the three stores
    have hst : ∃ w4, w4 = ((w3.setCell ⟨w.heap.size, 0, none⟩ (.int .i64 0)).setCell ⟨w.heap.size + 1, 0, none⟩ (.int .i64 0)).setCell ⟨w.heap.size + 1, 1, none⟩ (.int .i64 0) := ⟨_, rfl⟩
    obtain ⟨w4, hw4⟩ := hst
    have kA4 : w4.heap[w.heap.size]? = some (.cells #[.int .i64 0] 26 (0, 0)) := by rw [hw4, set_keep (by omega), set_keep (by omega)]; simp [World.setCell, Array.getElem?_modify, kA]
    have kB4 : w4.heap[w.heap.size + 1]? = some (.cells #[.int .i64 0, .int .i64 0] 28 (0, 0)) := by
      have h1 : (w3.setCell ⟨w.heap.size, 0, none⟩ (.int .i64 0)).heap[w.heap.size + 1]? = some (.cells #[.int .i64 0, .int .i64 0] 28 (0, 0)) := (set_keep (by omega)).trans kB
      rw [hw4]; simp [World.setCell, Array.getElem?_modify] at h1 ⊢; simp [h1, kB]
    have hB4 : Below w.heap.size w w4 := by rw [hw4]; exact ((hBw.setCell (by simp) _).setCell (by simp) _).setCell (by simp) _
    have hg4a : w3.grownBy (w3.setCell ⟨w.heap.size, 0, none⟩ (.int .i64 0)) (some (w.heap.size)) := grownBy_set (grownBy_refl w3 _) _
    have hg4b : (w3.setCell ⟨w.heap.size, 0, none⟩ (.int .i64 0)).grownBy w4 (some (w.heap.size + 1)) := by rw [hw4]; exact grownBy_set (grownBy_set (grownBy_refl _ _) _) _
    have hown4 : w4.ownsRow (((w.alloc (.cells #[.int .i64 0] 26)).alloc (.cells #[.int .i64 0, .int .i64 0] 28)).heap.size) 194 5 v3 L.length ((L.map tcs).flatten) := (hown3.kept hg4a (.inr fun e => by have := (hown3.lt _ e).1; omega)).kept hg4b (.inr fun e => by have := ((hown3.kept hg4a (.inr fun e => by have := (hown3.lt _ e).1; omega)).lt _ e).1; omega)
    have hz4 : w3.heap.size ≤ w4.heap.size := Nat.le_trans hg4a.size hg4b.size
    have HW4 : Aside (((w3.setCell ⟨w.heap.size, 0, none⟩ (.int .i64 0)).setCell ⟨w.heap.size + 1, 0, none⟩ (.int .i64 0)).setCell ⟨w.heap.size + 1, 1, none⟩ (.int .i64 0) = w4) := hw4.symm
    have hen := endOf_any w4 _ bs (hs.kept hB4) (by omega)
    clear hT kA2 kB2 hB2 hcs hg4a hg4b hown3 hw4 hlen2
    go_wp2_with fail
    rw [HW4.out]
    clear HW4 cA cB cB2 fA fB kA kB hB3 hBw
    refine hen.mono ?_
    rintro e5 w5 ⟨rfl, hB5⟩
    have hro := readerOf_any w5 _ L.length v3 _ ((T1.Tx.lnTo bs bs.length : Int) + 1) ((bs.length : Int) - (T1.Tx.stTo bs bs.length : Int) + 1) (own_below hown4 hB5) (by omega) (by have := hB5.size; omega)
    clear hen hown4
    generalize hPl : (T1.Tx.lnTo bs bs.length : Int) + 1 = pln at *
    generalize hPc : (bs.length : Int) - (T1.Tx.stTo bs bs.length : Int) + 1 = pco at *
    clear hPl hPc
    go_wp2_with fail
    refine hro.mono ?_
    rintro e6 w6 ⟨v6, rfl, hown6, hB6⟩
    have hown6' : w6.ownsRow (((w.alloc (.cells #[.int .i64 0] 26)).alloc (.cells #[.int .i64 0, .int .i64 0] 28)).heap.size) 194 5 v6 (L.length + 1) ((L.map tcs).flatten ++ tcs (ptEnd bs)) := by rw [hend]; exact hown6
    clear hown6 hro
    clear hend
    generalize hEe : ptEnd bs = pe0 at *
    clear hEe
    have hz6 := hB6.size
    have hz5 := hB5.size
    have hfo := forms_any w6
    go_wp2_with fail
    refine hfo.mono ?_
    rintro e7 w7 ⟨rfl, h7⟩
    have hat := atoms_any w7
    clear hfo
    go_wp2_with fail
    refine hat.mono ?_
    rintro e8 w8 ⟨rfl, h8⟩
    clear hat
    have hpn := prs_new hown6' h7 h8 (by omega)
    obtain ⟨_, m7, _, B7⟩ := h7
    obtain ⟨_, m8, _, B8⟩ := h8
    have z7 := B7.size
    have z8 := B8.size
    obtain ⟨sa, sc, rfl⟩ := own_len hown6'
    generalize hPB : w8.alloc (.cells #[.slice sa (L.length + 1) sc, .int .i64 0, .int .i64 0, .int .i64 0, .int .i64 0, .int .i64 0, .int .i64 0, .int .i64 0, .int .i64 0, .int .i64 0, .int .i64 0, .int .i64 0, .map (some w6.heap.size), .map (some w7.heap.size), .int .i64 0] 132) = w9 at hpn
    obtain ⟨P9, M9⟩ := hpn
    have hB89 : Below w8.heap.size w8 w9 := by rw [← hPB]; exact (Below.refl _ _).alloc (Nat.le_refl _) _
    have HW9 : Aside _ := hPB
    have hz9 := hB89.size
    have hB49 : Below (w.heap.size + 2) w4 w9 := (((hB5.mono (by omega)).trans (hB6.mono (by omega))).trans ((B7.mono (by omega)).trans (B8.mono (by omega)))).trans (hB89.mono (by omega))
    have kA9 := (hB49.block (w.heap.size) (by omega)).trans kA4
    have kB9 := (hB49.block (w.heap.size + 1) (by omega)).trans kB4
    have hBw9 : Below w.heap.size w w9 := hB4.trans (hB49.mono (by omega))
    have hrd := readM he hTS M9 P9
    generalize hPbe : w8.heap.size = pb at *
    clear hPB hown6' m7 m8 B7 B8 hB5 hB6 hB89 hB49 hB4 kA4 kB4 M9
    go_wp2_with fail
    rw [HW9.out]
    clear HW9
    refine hrd.mono ?_
    intro e10 w10 hR
    have hkeep : ∀ W, w9.grownBy W (some pb) → W.heap[w.heap.size]? = some (.cells #[.int .i64 0] 26 (0, 0)) ∧ W.heap[w.heap.size + 1]? = some (.cells #[.int .i64 0, .int .i64 0] 28 (0, 0)) ∧ Below w.heap.size w W ∧ w.heap.size + 1 < W.heap.size := fun W hg => ⟨(hg.block (w.heap.size) (by omega) (by simp; omega)).trans kA9, (hg.block (w.heap.size + 1) (by omega) (by simp; omega)).trans kB9, hBw9.grown hg (by omega) (fun x e => by cases e; omega), by have := hg.size; omega⟩
    have HK : Aside _ := hkeep
    have hpb9 := P9.lt
    clear hrd hkeep kA9 kB9 hBw9 P9
    rcases hv1 : modsV L pe0 with j | ⟨a, j, lg⟩
    · rw [hv1] at hR
      obtain ⟨rfl, g10⟩ := hR
      have HX : Aside (modsF bs = .error (15, pl (tok L pe0 j))) := by show _ = _; rw [HF.out, hv1]; rfl
      obtain ⟨kA, kB, hBf, hlB⟩ := HK.out w10 g10
      have cA : w10.cell? ⟨w.heap.size, 0, none⟩ = some (.int .i64 0) := (block_cells kA).1 0
      have cB : w10.cell? ⟨w.heap.size + 1, 0, none⟩ = some (.int .i64 0) := (block_cells kB).1 0
      have cB2 : w10.cell? ⟨w.heap.size + 1, 1, none⟩ = some (.int .i64 0) := (block_cells kB).1 1
      have fA := (block_cells kA).2 0
      have fB := (block_cells kB).2 0
      have fB2 := (block_cells kB).2 1
      have hlA : w.heap.size < w10.heap.size := by omega
      have HBF : Aside (∀ a b c o, Below w.heap.size w ((((w10.setCell ⟨w.heap.size, 0, none⟩ a).setCell ⟨w.heap.size + 1, 0, none⟩ b).setCell ⟨w.heap.size + 1, 1, none⟩ c).alloc o).drew) := fun a b c o => below_drew ((((hBf.setCell (by simp) _).setCell (by simp) _).setCell (by simp) _).alloc (by simp [World.setCell]; omega) _)
      have hC := fun o => caught (er := 15) (ln := (tok L pe0 j).ln) (co := (tok L pe0 j).co) kA kB (by omega) o
      have HCA : Aside _ := hC
      clear hC
      clear hv1 HF HK kA kB hBf g10
      go_wp2_with fail
      refine leaves_cons (f := 74) (args := #[.pointer (some ⟨w.heap.size, 0, none⟩), .pointer (some ⟨w.heap.size + 1, 0, none⟩)]) (by simp) (by simp [go_sem]) ?_
      refine (wcatchM_panicking (w.heap.size) (w.heap.size + 1) 0 0 0 15 (tok L pe0 j).ln (tok L pe0 j).co [] _ cA cB cB2 fA fB fB2 (by omega) hlA hlB).mono ?_
      rintro e u' w'' ⟨rfl, rfl, hw13⟩
      have hb13 : Below w.heap.size w w'' := by rw [hw13]; exact HBF.out _ _ _ _
      have k13 := HCA.out (.cells #[.int .i64 15, .int .i64 (tok L pe0 j).ln, .int .i64 (tok L pe0 j).co] 120)
      rw [← hw13] at k13
      have d0 : w''.cell? ⟨w.heap.size, 0, none⟩ = some (.int .i64 15) := (block_cells k13.1).1 0
      have d1 : w''.cell? ⟨w.heap.size + 1, 0, none⟩ = some (.int .i64 (tok L pe0 j).ln) := (block_cells k13.2).1 0
      have d2 : w''.cell? ⟨w.heap.size + 1, 1, none⟩ = some (.int .i64 (tok L pe0 j).co) := (block_cells k13.2).1 1
      clear hw13 k13 HCA HBF
      simp [Leaves, settle, results, Tryz.results31, go_sem, d0, d1, d2]
      exact ⟨hb13, by rw [HX.out]; rfl⟩
    rw [hv1] at hR
    obtain ⟨rv, n10, rfl, hO, P10, g10⟩ := hR
    have hjl := P10.at'
    by_cases hj : j < L.length
    · have hfn := finish_no P10 hj
      have HX : Aside (modsF bs = .error (15, pl (tok L pe0 j))) := by show _ = _; rw [HF.out, hv1]; show (if j < L.length then _ else _) = _; rw [if_pos hj]
      clear hv1 HF hO
      go_wp2_with fail
      refine hfn.mono ?_
      rintro e11 w11 ⟨rfl, g11⟩
      obtain ⟨kA, kB, hBf, hlB⟩ := HK.out w11 (grownBy_trans g10 g11)
      have cA : w11.cell? ⟨w.heap.size, 0, none⟩ = some (.int .i64 0) := (block_cells kA).1 0
      have cB : w11.cell? ⟨w.heap.size + 1, 0, none⟩ = some (.int .i64 0) := (block_cells kB).1 0
      have cB2 : w11.cell? ⟨w.heap.size + 1, 1, none⟩ = some (.int .i64 0) := (block_cells kB).1 1
      have fA := (block_cells kA).2 0
      have fB := (block_cells kB).2 0
      have fB2 := (block_cells kB).2 1
      have hlA : w.heap.size < w11.heap.size := by omega
      have HBF : Aside (∀ a b c o, Below w.heap.size w ((((w11.setCell ⟨w.heap.size, 0, none⟩ a).setCell ⟨w.heap.size + 1, 0, none⟩ b).setCell ⟨w.heap.size + 1, 1, none⟩ c).alloc o).drew) := fun a b c o => below_drew ((((hBf.setCell (by simp) _).setCell (by simp) _).setCell (by simp) _).alloc (by simp [World.setCell]; omega) _)
      have hC := fun o => caught (er := 15) (ln := (tok L pe0 j).ln) (co := (tok L pe0 j).co) kA kB (by omega) o
      have HCA : Aside _ := hC
      clear hC
      clear HK kA kB hBf g10 g11 hfn P10
      go_wp2_with fail
      refine leaves_cons (f := 74) (args := #[.pointer (some ⟨w.heap.size, 0, none⟩), .pointer (some ⟨w.heap.size + 1, 0, none⟩)]) (by simp) (by simp [go_sem]) ?_
      refine (wcatchM_panicking (w.heap.size) (w.heap.size + 1) 0 0 0 15 (tok L pe0 j).ln (tok L pe0 j).co [] _ cA cB cB2 fA fB fB2 (by omega) hlA hlB).mono ?_
      rintro e u' w'' ⟨rfl, rfl, hw13⟩
      have hb13 : Below w.heap.size w w'' := by rw [hw13]; exact HBF.out _ _ _ _
      have k13 := HCA.out (.cells #[.int .i64 15, .int .i64 (tok L pe0 j).ln, .int .i64 (tok L pe0 j).co] 120)
      rw [← hw13] at k13
      have d0 : w''.cell? ⟨w.heap.size, 0, none⟩ = some (.int .i64 15) := (block_cells k13.1).1 0
      have d1 : w''.cell? ⟨w.heap.size + 1, 0, none⟩ = some (.int .i64 (tok L pe0 j).ln) := (block_cells k13.2).1 0
      have d2 : w''.cell? ⟨w.heap.size + 1, 1, none⟩ = some (.int .i64 (tok L pe0 j).co) := (block_cells k13.2).1 1
      clear hw13 k13 HCA HBF
      simp [Leaves, settle, results, Tryz.results31, go_sem, d0, d1, d2]
      exact ⟨hb13, by rw [HX.out]; rfl⟩
    obtain rfl : j = L.length := by omega
    have hfn := finish_yes P10
    have HX0 : Aside (modsF bs = match firstL (effE lm0 lg) with
      | some (c, p) => .error (c, p)
      | none => .ok a) := by show _ = _; rw [HF.out, hv1]; show (if L.length < L.length then _ else _) = _; rw [if_neg (by omega)]; rcases firstL (effE lm0 lg) with _ | ⟨c, p⟩ <;> rfl
    clear hv1 HF
    go_wp2_with fail
    refine hfn.mono ?_
    rintro e11 w11 ⟨rfl, n11, rfl⟩
    have htl := tell_any (P10.drewN n11)
    have hO11 : OwnM w9.heap.size (w10.drewN n11) rv a := hO.low (pb := pb) (grownBy_drewN (grownBy_refl w10 _) n11) (by omega)
    have g11 : w9.grownBy (w10.drewN n11) (some pb) := grownBy_drewN g10 n11
    clear hfn hO P10 g10
    rcases hf1 : firstL (effE lm0 lg) with _ | ⟨c, p⟩
    · rw [hf1] at htl HX0
      go_wp2_with fail
      refine htl.mono ?_
      rintro e12 w12 ⟨g12, rfl⟩
      have hO12 := hO11.low g12 (by omega)
      obtain ⟨kA, kB, hBf, hlB⟩ := HK.out w12 (grownBy_trans g11 g12)
      have cA : w12.cell? ⟨w.heap.size, 0, none⟩ = some (.int .i64 0) := (block_cells kA).1 0
      have cB : w12.cell? ⟨w.heap.size + 1, 0, none⟩ = some (.int .i64 0) := (block_cells kB).1 0
      have cB2 : w12.cell? ⟨w.heap.size + 1, 1, none⟩ = some (.int .i64 0) := (block_cells kB).1 1
      have fA := (block_cells kA).2
      have fB := (block_cells kB).2
      have HBF : Aside (∀ a b c, Below w.heap.size w (((w12.setCell ⟨w.heap.size, 0, none⟩ a).setCell ⟨w.heap.size + 1, 0, none⟩ b).setCell ⟨w.heap.size + 1, 1, none⟩ c)) := fun a b c => ((hBf.setCell (by simp) _).setCell (by simp) _).setCell (by simp) _
      have HOF : Aside (∀ x b c, OwnM w.heap.size (((w12.setCell ⟨w.heap.size, 0, none⟩ x).setCell ⟨w.heap.size + 1, 0, none⟩ b).setCell ⟨w.heap.size + 1, 1, none⟩ c) rv a) := fun x b c => ((hO12.low (grownBy_set (grownBy_refl w12 (some (w.heap.size))) _) (by omega)).low (grownBy_set (grownBy_set (grownBy_refl _ (some (w.heap.size + 1))) _) _) (by omega)).down (by omega)
      clear HK kA kB hBf g11 g12 htl hO11 hO12
      go_wp2_with fail
      refine leaves_cons (f := 74) (args := #[.pointer (some ⟨w.heap.size, 0, none⟩), .pointer (some ⟨w.heap.size + 1, 0, none⟩)]) (by simp) (by simp [go_sem]) ?_
      refine (wcatchM_idle ⟨w.heap.size, 0, none⟩ ⟨w.heap.size + 1, 0, none⟩ _).mono ?_
      rintro e u' w'' ⟨rfl, rfl, rfl⟩
      simp [Leaves, settle, results, Tryz.results31, go_sem, cA, cB, cB2]
      exact ⟨HBF.out _ _ _, by rw [HX0.out]; exact ⟨_, rfl, HOF.out _ _ _⟩⟩
    · obtain ⟨pa, pc⟩ := p
      rw [hf1] at htl HX0
      go_wp2_with fail
      refine htl.mono ?_
      rintro e12 w12 ⟨g12, rfl⟩
      obtain ⟨kA, kB, hBf, hlB⟩ := HK.out w12 (grownBy_trans g11 g12)
      have cA : w12.cell? ⟨w.heap.size, 0, none⟩ = some (.int .i64 0) := (block_cells kA).1 0
      have cB : w12.cell? ⟨w.heap.size + 1, 0, none⟩ = some (.int .i64 0) := (block_cells kB).1 0
      have cB2 : w12.cell? ⟨w.heap.size + 1, 1, none⟩ = some (.int .i64 0) := (block_cells kB).1 1
      have fA := (block_cells kA).2 0
      have fB := (block_cells kB).2 0
      have fB2 := (block_cells kB).2 1
      have hlA : w.heap.size < w12.heap.size := by omega
      have HBF : Aside (∀ a b c o, Below w.heap.size w ((((w12.setCell ⟨w.heap.size, 0, none⟩ a).setCell ⟨w.heap.size + 1, 0, none⟩ b).setCell ⟨w.heap.size + 1, 1, none⟩ c).alloc o).drew) := fun a b c o => below_drew ((((hBf.setCell (by simp) _).setCell (by simp) _).setCell (by simp) _).alloc (by simp [World.setCell]; omega) _)
      have hC := fun o => caught (er := c) (ln := pa) (co := pc) kA kB (by omega) o
      have HCA : Aside _ := hC
      clear hC
      clear HK kA kB hBf g11 g12 htl hO11
      go_wp2_with fail
      refine leaves_cons (f := 74) (args := #[.pointer (some ⟨w.heap.size, 0, none⟩), .pointer (some ⟨w.heap.size + 1, 0, none⟩)]) (by simp) (by simp [go_sem]) ?_
      refine (wcatchM_panicking (w.heap.size) (w.heap.size + 1) 0 0 0 c pa pc [] _ cA cB cB2 fA fB fB2 (by omega) hlA hlB).mono ?_
      rintro e u' w'' ⟨rfl, rfl, hw13⟩
      have hb13 : Below w.heap.size w w'' := by rw [hw13]; exact HBF.out _ _ _ _
      have k13 := HCA.out (.cells #[.int .i64 c, .int .i64 pa, .int .i64 pc] 120)
      rw [← hw13] at k13
      have d0 : w''.cell? ⟨w.heap.size, 0, none⟩ = some (.int .i64 c) := (block_cells k13.1).1 0
      have d1 : w''.cell? ⟨w.heap.size + 1, 0, none⟩ = some (.int .i64 pa) := (block_cells k13.2).1 0
      have d2 : w''.cell? ⟨w.heap.size + 1, 1, none⟩ = some (.int .i64 pc) := (block_cells k13.2).1 1
      clear hw13 k13 HCA HBF
      simp [Leaves, settle, results, Tryz.results31, go_sem, d0, d1, d2]
      exact ⟨hb13, by rw [HX0.out]⟩
end Go.Proofs.YtohjfikjbeafiaaGreatDoor
namespace Go.Proofs.YtohjfikjbeafiaaGreatDoor
open Go.RowKit Ps
set_option maxRecDepth 100000
set_option linter.unusedSimpArgs false

set_option maxHeartbeats 2000000 in
theorem faceN_any (w : World) (v : Value) (bs : List UInt8) (hs : T1.IsSrc w v bs) (hl : bs.length ≤ 60000) (hv : T1.Vars w) (h2 : 6 ≤ w.heap.size) :
    Calls Tryz.prog 18 #[v] w (WhEnd OwnN (.slice none 0 0) w (exprF bs)) := by
  have hB : Below w.heap.size w (w.alloc (.cells #[.int .i64 0, .int .i64 0] 28)) := (Below.refl _ _).alloc (Nat.le_refl _) _
  have hW := wholeN_any (w.alloc (.cells #[.int .i64 0, .int .i64 0] 28)) v bs (hs.kept hB) hl (hv.below hB) (by simp; omega)
  have k0 : (w.alloc (.cells #[.int .i64 0, .int .i64 0] 28)).heap[w.heap.size]? = some (.cells #[.int .i64 0, .int .i64 0] 28) := heap_alloc_new _ _
  have hz : (w.alloc (.cells #[.int .i64 0, .int .i64 0] 28)).heap.size = w.heap.size + 1 := by simp
  obtain ⟨va, vc, rfl⟩ := hs.shape
  clear hs
  have HS : Aside (∀ w2 a b, Below (w.alloc (.cells #[.int .i64 0, .int .i64 0] 28)).heap.size (w.alloc (.cells #[.int .i64 0, .int .i64 0] 28)) w2 → Below w.heap.size w ((w2.setCell ⟨w.heap.size, 0, none⟩ a).setCell ⟨w.heap.size, 1, none⟩ b)) := fun w2 a b h => ((hB.trans (h.mono (by omega))).setCell (Nat.le_refl _) _).setCell (Nat.le_refl _) _
  rcases hr : exprF bs with ⟨c, p⟩ | a
  · rw [hr] at hW
    obtain ⟨pa, pc⟩ := p
    clear hr
    go_enter Tryz.func18, Tryz.ntmps18
    go_wp2_with fail
    refine hW.mono ?_
    rintro e2 w2 ⟨hB2, rfl⟩
    have k2 := (hB2.block w.heap.size (by omega)).trans k0
    have c0 : w2.cell? ⟨w.heap.size, 0, none⟩ = some (.int .i64 0) := (block_cells k2).1 0
    have c1 : w2.cell? ⟨w.heap.size, 1, none⟩ = some (.int .i64 0) := (block_cells k2).1 1
    have f1 := (block_cells k2).2
    have HB := fun a b => HS.out w2 a b hB2
    have HB' : Aside _ := HB
    clear hW hB2 k2 HB
    go_wp2_with fail
    try simp only [Exit.inBlock, Exit.then]
    refine bodyPost_ret (v := .tuple #[.slice none 0 0, .int .i64 c, .agg #[.int .i64 pa, .int .i64 pc]]) (by simp [results, Tryz.results18, go_sem, c0, c1]) rfl ?_
    exact ⟨HB'.out _ _, rfl⟩
  · rw [hr] at hW
    clear hr
    go_enter Tryz.func18, Tryz.ntmps18
    go_wp2_with fail
    refine hW.mono ?_
    rintro e2 w2 ⟨hB2, rv, rfl, hO⟩
    have k2 := (hB2.block w.heap.size (by omega)).trans k0
    have c0 : w2.cell? ⟨w.heap.size, 0, none⟩ = some (.int .i64 0) := (block_cells k2).1 0
    have c1 : w2.cell? ⟨w.heap.size, 1, none⟩ = some (.int .i64 0) := (block_cells k2).1 1
    have f1 := (block_cells k2).2
    have HB := fun a b => HS.out w2 a b hB2
    have HB' : Aside _ := HB
    have HO : Aside (∀ x y, OwnN w.heap.size ((w2.setCell ⟨w.heap.size, 0, none⟩ x).setCell ⟨w.heap.size, 1, none⟩ y) rv a) := fun x y => (hO.low (grownBy_set (grownBy_set (grownBy_refl w2 (some w.heap.size)) _) _) (by omega)).down (by omega)
    clear hW hB2 k2 HB hO
    go_wp2_with fail
    try simp only [Exit.inBlock, Exit.then]
    refine bodyPost_ret (v := .tuple #[rv, .int .i64 0, .agg #[.int .i64 0, .int .i64 0]]) (by simp [results, Tryz.results18, go_sem, c0, c1]) rfl ?_
    exact ⟨HB'.out _ _, _, rfl, HO.out _ _⟩

set_option maxHeartbeats 2000000 in
theorem faceT_any (w : World) (v : Value) (bs : List UInt8) (hs : T1.IsSrc w v bs) (hl : bs.length ≤ 60000) (hv : T1.Vars w) (h2 : 6 ≤ w.heap.size) :
    Calls Tryz.prog 20 #[v] w (WhEnd OwnT (.string ⟨#[]⟩) w (typeF bs)) := by
  have hB : Below w.heap.size w (w.alloc (.cells #[.int .i64 0, .int .i64 0] 28)) := (Below.refl _ _).alloc (Nat.le_refl _) _
  have hW := wholeT_any (w.alloc (.cells #[.int .i64 0, .int .i64 0] 28)) v bs (hs.kept hB) hl (hv.below hB) (by simp; omega)
  have k0 : (w.alloc (.cells #[.int .i64 0, .int .i64 0] 28)).heap[w.heap.size]? = some (.cells #[.int .i64 0, .int .i64 0] 28) := heap_alloc_new _ _
  have hz : (w.alloc (.cells #[.int .i64 0, .int .i64 0] 28)).heap.size = w.heap.size + 1 := by simp
  obtain ⟨va, vc, rfl⟩ := hs.shape
  clear hs
  have HS : Aside (∀ w2 a b, Below (w.alloc (.cells #[.int .i64 0, .int .i64 0] 28)).heap.size (w.alloc (.cells #[.int .i64 0, .int .i64 0] 28)) w2 → Below w.heap.size w ((w2.setCell ⟨w.heap.size, 0, none⟩ a).setCell ⟨w.heap.size, 1, none⟩ b)) := fun w2 a b h => ((hB.trans (h.mono (by omega))).setCell (Nat.le_refl _) _).setCell (Nat.le_refl _) _
  rcases hr : typeF bs with ⟨c, p⟩ | a
  · rw [hr] at hW
    obtain ⟨pa, pc⟩ := p
    clear hr
    go_enter Tryz.func20, Tryz.ntmps20
    go_wp2_with fail
    refine hW.mono ?_
    rintro e2 w2 ⟨hB2, rfl⟩
    have k2 := (hB2.block w.heap.size (by omega)).trans k0
    have c0 : w2.cell? ⟨w.heap.size, 0, none⟩ = some (.int .i64 0) := (block_cells k2).1 0
    have c1 : w2.cell? ⟨w.heap.size, 1, none⟩ = some (.int .i64 0) := (block_cells k2).1 1
    have f1 := (block_cells k2).2
    have HB := fun a b => HS.out w2 a b hB2
    have HB' : Aside _ := HB
    clear hW hB2 k2 HB
    go_wp2_with fail
    try simp only [Exit.inBlock, Exit.then]
    refine bodyPost_ret (v := .tuple #[.string ⟨#[]⟩, .int .i64 c, .agg #[.int .i64 pa, .int .i64 pc]]) (by simp [results, Tryz.results20, go_sem, c0, c1]) rfl ?_
    exact ⟨HB'.out _ _, rfl⟩
  · rw [hr] at hW
    clear hr
    go_enter Tryz.func20, Tryz.ntmps20
    go_wp2_with fail
    refine hW.mono ?_
    rintro e2 w2 ⟨hB2, rv, rfl, hO⟩
    have k2 := (hB2.block w.heap.size (by omega)).trans k0
    have c0 : w2.cell? ⟨w.heap.size, 0, none⟩ = some (.int .i64 0) := (block_cells k2).1 0
    have c1 : w2.cell? ⟨w.heap.size, 1, none⟩ = some (.int .i64 0) := (block_cells k2).1 1
    have f1 := (block_cells k2).2
    have HB := fun a b => HS.out w2 a b hB2
    have HB' : Aside _ := HB
    have HO : Aside (∀ x y, OwnT w.heap.size ((w2.setCell ⟨w.heap.size, 0, none⟩ x).setCell ⟨w.heap.size, 1, none⟩ y) rv a) := fun x y => (hO.low (grownBy_set (grownBy_set (grownBy_refl w2 (some w.heap.size)) _) _) (by omega)).down (by omega)
    clear hW hB2 k2 HB hO
    go_wp2_with fail
    try simp only [Exit.inBlock, Exit.then]
    refine bodyPost_ret (v := .tuple #[rv, .int .i64 0, .agg #[.int .i64 0, .int .i64 0]]) (by simp [results, Tryz.results20, go_sem, c0, c1]) rfl ?_
    exact ⟨HB'.out _ _, _, rfl, HO.out _ _⟩

set_option maxHeartbeats 2000000 in
theorem faceM_any (w : World) (v : Value) (bs : List UInt8) (hs : T1.IsSrc w v bs) (hl : bs.length ≤ 60000) (hv : T1.Vars w) (h2 : 6 ≤ w.heap.size) :
    Calls Tryz.prog 11 #[v] w (WhEnd OwnM (.slice none 0 0) w (modsF bs)) := by
  have hB : Below w.heap.size w (w.alloc (.cells #[.int .i64 0, .int .i64 0] 28)) := (Below.refl _ _).alloc (Nat.le_refl _) _
  have hW := wholeM_any (w.alloc (.cells #[.int .i64 0, .int .i64 0] 28)) v bs (hs.kept hB) hl (hv.below hB) (by simp; omega)
  have k0 : (w.alloc (.cells #[.int .i64 0, .int .i64 0] 28)).heap[w.heap.size]? = some (.cells #[.int .i64 0, .int .i64 0] 28) := heap_alloc_new _ _
  have hz : (w.alloc (.cells #[.int .i64 0, .int .i64 0] 28)).heap.size = w.heap.size + 1 := by simp
  obtain ⟨va, vc, rfl⟩ := hs.shape
  clear hs
  have HS : Aside (∀ w2 a b, Below (w.alloc (.cells #[.int .i64 0, .int .i64 0] 28)).heap.size (w.alloc (.cells #[.int .i64 0, .int .i64 0] 28)) w2 → Below w.heap.size w ((w2.setCell ⟨w.heap.size, 0, none⟩ a).setCell ⟨w.heap.size, 1, none⟩ b)) := fun w2 a b h => ((hB.trans (h.mono (by omega))).setCell (Nat.le_refl _) _).setCell (Nat.le_refl _) _
  rcases hr : modsF bs with ⟨c, p⟩ | a
  · rw [hr] at hW
    obtain ⟨pa, pc⟩ := p
    clear hr
    go_enter Tryz.func11, Tryz.ntmps11
    go_wp2_with fail
    refine hW.mono ?_
    rintro e2 w2 ⟨hB2, rfl⟩
    have k2 := (hB2.block w.heap.size (by omega)).trans k0
    have c0 : w2.cell? ⟨w.heap.size, 0, none⟩ = some (.int .i64 0) := (block_cells k2).1 0
    have c1 : w2.cell? ⟨w.heap.size, 1, none⟩ = some (.int .i64 0) := (block_cells k2).1 1
    have f1 := (block_cells k2).2
    have HB := fun a b => HS.out w2 a b hB2
    have HB' : Aside _ := HB
    clear hW hB2 k2 HB
    go_wp2_with fail
    try simp only [Exit.inBlock, Exit.then]
    refine bodyPost_ret (v := .tuple #[.slice none 0 0, .int .i64 c, .agg #[.int .i64 pa, .int .i64 pc]]) (by simp [results, Tryz.results11, go_sem, c0, c1]) rfl ?_
    exact ⟨HB'.out _ _, rfl⟩
  · rw [hr] at hW
    clear hr
    go_enter Tryz.func11, Tryz.ntmps11
    go_wp2_with fail
    refine hW.mono ?_
    rintro e2 w2 ⟨hB2, rv, rfl, hO⟩
    have k2 := (hB2.block w.heap.size (by omega)).trans k0
    have c0 : w2.cell? ⟨w.heap.size, 0, none⟩ = some (.int .i64 0) := (block_cells k2).1 0
    have c1 : w2.cell? ⟨w.heap.size, 1, none⟩ = some (.int .i64 0) := (block_cells k2).1 1
    have f1 := (block_cells k2).2
    have HB := fun a b => HS.out w2 a b hB2
    have HB' : Aside _ := HB
    have HO : Aside (∀ x y, OwnM w.heap.size ((w2.setCell ⟨w.heap.size, 0, none⟩ x).setCell ⟨w.heap.size, 1, none⟩ y) rv a) := fun x y => (hO.low (grownBy_set (grownBy_set (grownBy_refl w2 (some w.heap.size)) _) _) (by omega)).down (by omega)
    clear hW hB2 k2 HB hO
    go_wp2_with fail
    try simp only [Exit.inBlock, Exit.then]
    refine bodyPost_ret (v := .tuple #[rv, .int .i64 0, .agg #[.int .i64 0, .int .i64 0]]) (by simp [results, Tryz.results11, go_sem, c0, c1]) rfl ?_
    exact ⟨HB'.out _ _, _, rfl, HO.out _ _⟩

end Go.Proofs.YtohjfikjbeafiaaGreatDoor
namespace Go.Proofs.YtohjfikjbeafiaaGreatDoor
open Go.RowKit Ps
set_option maxRecDepth 100000
namespace Ps
def ws1 : List UInt8 := [49, 32, 45, 32, 50, 32, 45, 32, 120]
def ws2 : List UInt8 := [105, 110, 116, 32, 45, 62, 32, 91, 63, 93]
def ws3 : List UInt8 := [109, 111, 100, 117, 108, 101, 32, 109, 32, 123, 32, 108, 101, 116, 32, 120, 32, 61, 32, 49, 59, 32, 125]
def ws4 : List UInt8 := [102, 32, 49]
def wn (kind kids n : Int) (s : List UInt8) (co : Int) : Tr.Nd := ⟨kind, kids, n, bs s, ⟨#[]⟩, ⟨#[]⟩, 1, co⟩
theorem wk1 : exprF ws1 = .ok [wn 11 2 0 [] 7, wn 11 2 0 [] 3, wn 1 0 1 [] 1, wn 1 0 2 [] 5, wn 4 0 0 [120] 9] := by kernel_rfl
theorem wk2 : typeF ws2 = .ok [62, 105, 108, 63] := by kernel_rfl
theorem wk3 : modsF ws3 = .ok [⟨[109], [], [⟨[120], false, [], [wn 1 0 1 [] 20], 1, 16⟩], 1, 8⟩] := by kernel_rfl
theorem wk4 : exprF ws4 = .error (15, (1, 3)) := by kernel_rfl
end Ps
end Go.Proofs.YtohjfikjbeafiaaGreatDoor
namespace Go.Proofs.YtohjfikjbeafiaaGreatDoor
open Go.RowKit Ps
set_option maxRecDepth 100000
set_option linter.unusedSimpArgs false

theorem src_lit (w : World) (l : List UInt8) (fr : Nat × Nat) : T1.IsSrc (w.alloc (.cells (l.map fun c => Value.int .u8 (c.toNat : Int)).toArray 5 fr)) (.slice (some ⟨w.heap.size, 0, none⟩) l.length l.length) l := by
  refine .inr ⟨w.heap.size, 0, l.length, rfl, Nat.le_refl _, by simp, fun j hj => ?_⟩
  rw [Nat.zero_add, World.cell?_alloc_mark, List.getElem?_toArray, List.getElem?_map, List.getElem?_eq_getElem hj]
  unfold T1.Tx.B
  rw [List.getElem?_eq_getElem hj]
  rfl
theorem und5 : Tryz.prog.underlying 5 = some (.int .u8) := by kernel_rfl

set_option maxHeartbeats 8000000 in
theorem works_any (w : World) (hv : T1.Vars w) (h2 : 6 ≤ w.heap.size) : Calls Tryz.prog 9 #[] w fun e w' => e = .returned (.bool true) ∧ Below w.heap.size w w' := by
  have HB : Aside (∀ W, Below w.heap.size w W → T1.Vars W ∧ 6 ≤ W.heap.size) := fun W hB => ⟨hv.below hB, Nat.le_trans h2 hB.size⟩
  have HA : Aside (∀ W o, Below w.heap.size w W → Below w.heap.size w (W.alloc o)) := fun W o hB => hB.alloc hB.size o
  have HK : Aside (∀ (w : World) (C : Array Value) (n c : Nat), (convert 22 22 (.slice (some ⟨w.heap.size, 0, none⟩) n c)).run Tryz.prog (w.alloc (.cells C 5)) = .ok (.slice (some ⟨w.heap.size, 0, none⟩) n c) (w.alloc (.cells C 5 (C.size, C.size + 1)))) := fun w C n c => Lib.run_convert_bytes_const w 22 5 C n c tyBytes und5
  have hB0 : Below w.heap.size w w := Below.refl _ _
  go_enter Tryz.func9, Tryz.ntmps9
  skip
  have kc0 : (convert 22 22 (.slice (some ⟨w.heap.size, 0, none⟩) 9 9)).run Tryz.prog (w.alloc (.cells #[.int .u8 49, .int .u8 32, .int .u8 45, .int .u8 32, .int .u8 50, .int .u8 32, .int .u8 45, .int .u8 32, .int .u8 120] 5)) = .ok (.slice (some ⟨w.heap.size, 0, none⟩) 9 9) (w.alloc (.cells #[.int .u8 49, .int .u8 32, .int .u8 45, .int .u8 32, .int .u8 50, .int .u8 32, .int .u8 45, .int .u8 32, .int .u8 120] 5 (9, 10))) := by
    have h := HK.out w #[.int .u8 49, .int .u8 32, .int .u8 45, .int .u8 32, .int .u8 50, .int .u8 32, .int .u8 45, .int .u8 32, .int .u8 120] 9 9
    exact h
  have hBa0 := HA.out w (.cells #[.int .u8 49, .int .u8 32, .int .u8 45, .int .u8 32, .int .u8 50, .int .u8 32, .int .u8 45, .int .u8 32, .int .u8 120] 5 (9, 10)) hB0
  have hs0 : T1.IsSrc (w.alloc (.cells #[.int .u8 49, .int .u8 32, .int .u8 45, .int .u8 32, .int .u8 50, .int .u8 32, .int .u8 45, .int .u8 32, .int .u8 120] 5 (9, 10))) (.slice (some ⟨w.heap.size, 0, none⟩) 9 9) ws1 := by
    have h := src_lit w ws1 (9, 10)
    exact h
  have hf0 := faceN_any (w.alloc (.cells #[.int .u8 49, .int .u8 32, .int .u8 45, .int .u8 32, .int .u8 50, .int .u8 32, .int .u8 45, .int .u8 32, .int .u8 120] 5 (9, 10))) _ ws1 hs0 (by decide) (HB.out _ hBa0).1 (HB.out _ hBa0).2
  rw [wk1] at hf0
  go_wp2_with fail
  refine hf0.mono ?_
  rintro e0 x0 ⟨hb0, v0, rfl, ho0⟩
  have hC0 : Below w.heap.size w x0 := ((Below.refl _ _).alloc (Nat.le_refl _) (.cells #[.int .u8 49, .int .u8 32, .int .u8 45, .int .u8 32, .int .u8 50, .int .u8 32, .int .u8 45, .int .u8 32, .int .u8 120] 5 (9, 10))).trans (hb0.mono (by simp))
  have hD0 : Below w.heap.size w x0 := hB0.trans (hC0.mono hB0.size)
  clear hf0 hs0 hb0 hBa0 hC0 kc0
  have hG0 : Below x0.heap.size x0 (x0.alloc (.cells #[.int .i64 0, .int .i64 0] 28)) := (Below.refl _ _).alloc (Nat.le_refl _) _
  have kp0 : (x0.alloc (.cells #[.int .i64 0, .int .i64 0] 28)).heap[x0.heap.size]? = some (.cells #[.int .i64 0, .int .i64 0] 28) := heap_alloc_new _ _
  have hH0 := HA.out x0 (.cells #[.int .i64 0, .int .i64 0] 28) hD0
  have q0_0 := own_below ho0 hG0
  clear hG0
  have hz1 : (x0.alloc (.cells #[.int .i64 0, .int .i64 0] 28)).heap.size = x0.heap.size + 1 := by simp
  have kc1 : (convert 22 22 (.slice (some ⟨x0.heap.size + 1, 0, none⟩) 10 10)).run Tryz.prog ((x0.alloc (.cells #[.int .i64 0, .int .i64 0] 28)).alloc (.cells #[.int .u8 105, .int .u8 110, .int .u8 116, .int .u8 32, .int .u8 45, .int .u8 62, .int .u8 32, .int .u8 91, .int .u8 63, .int .u8 93] 5)) = .ok (.slice (some ⟨x0.heap.size + 1, 0, none⟩) 10 10) ((x0.alloc (.cells #[.int .i64 0, .int .i64 0] 28)).alloc (.cells #[.int .u8 105, .int .u8 110, .int .u8 116, .int .u8 32, .int .u8 45, .int .u8 62, .int .u8 32, .int .u8 91, .int .u8 63, .int .u8 93] 5 (10, 11))) := by
    have h := HK.out (x0.alloc (.cells #[.int .i64 0, .int .i64 0] 28)) #[.int .u8 105, .int .u8 110, .int .u8 116, .int .u8 32, .int .u8 45, .int .u8 62, .int .u8 32, .int .u8 91, .int .u8 63, .int .u8 93] 10 10
    rw [hz1] at h
    exact h
  have hBa1 := HA.out (x0.alloc (.cells #[.int .i64 0, .int .i64 0] 28)) (.cells #[.int .u8 105, .int .u8 110, .int .u8 116, .int .u8 32, .int .u8 45, .int .u8 62, .int .u8 32, .int .u8 91, .int .u8 63, .int .u8 93] 5 (10, 11)) hH0
  have hs1 : T1.IsSrc ((x0.alloc (.cells #[.int .i64 0, .int .i64 0] 28)).alloc (.cells #[.int .u8 105, .int .u8 110, .int .u8 116, .int .u8 32, .int .u8 45, .int .u8 62, .int .u8 32, .int .u8 91, .int .u8 63, .int .u8 93] 5 (10, 11))) (.slice (some ⟨x0.heap.size + 1, 0, none⟩) 10 10) ws2 := by
    have h := src_lit (x0.alloc (.cells #[.int .i64 0, .int .i64 0] 28)) ws2 (10, 11)
    rw [hz1] at h
    exact h
  have hf1 := faceT_any ((x0.alloc (.cells #[.int .i64 0, .int .i64 0] 28)).alloc (.cells #[.int .u8 105, .int .u8 110, .int .u8 116, .int .u8 32, .int .u8 45, .int .u8 62, .int .u8 32, .int .u8 91, .int .u8 63, .int .u8 93] 5 (10, 11))) _ ws2 hs1 (by decide) (HB.out _ hBa1).1 (HB.out _ hBa1).2
  rw [wk2] at hf1
  go_wp2_with fail
  refine hf1.mono ?_
  rintro e1 x1 ⟨hb1, v1, rfl, rfl⟩
  have hC1 : Below (x0.alloc (.cells #[.int .i64 0, .int .i64 0] 28)).heap.size (x0.alloc (.cells #[.int .i64 0, .int .i64 0] 28)) x1 := ((Below.refl _ _).alloc (Nat.le_refl _) (.cells #[.int .u8 105, .int .u8 110, .int .u8 116, .int .u8 32, .int .u8 45, .int .u8 62, .int .u8 32, .int .u8 91, .int .u8 63, .int .u8 93] 5 (10, 11))).trans (hb1.mono (by simp))
  have hD1 : Below w.heap.size w x1 := hH0.trans (hC1.mono hH0.size)
  have o1_0 := own_below q0_0 hC1
  have p1_0 := (hC1.block (x0.heap.size) (Array.getElem?_eq_some_iff.1 kp0).1).trans kp0
  clear hf1 hs1 hb1 hBa1 hC1 kc1
  have hG1 : Below x1.heap.size x1 (x1.alloc (.cells #[.int .i64 0, .int .i64 0] 28)) := (Below.refl _ _).alloc (Nat.le_refl _) _
  have kp1 : (x1.alloc (.cells #[.int .i64 0, .int .i64 0] 28)).heap[x1.heap.size]? = some (.cells #[.int .i64 0, .int .i64 0] 28) := heap_alloc_new _ _
  have hH1 := HA.out x1 (.cells #[.int .i64 0, .int .i64 0] 28) hD1
  have q1_0 := own_below o1_0 hG1
  have r1_0 := (hG1.block (x0.heap.size) (Array.getElem?_eq_some_iff.1 p1_0).1).trans p1_0
  clear hG1
  have hz2 : (x1.alloc (.cells #[.int .i64 0, .int .i64 0] 28)).heap.size = x1.heap.size + 1 := by simp
  have kc2 : (convert 22 22 (.slice (some ⟨x1.heap.size + 1, 0, none⟩) 23 23)).run Tryz.prog ((x1.alloc (.cells #[.int .i64 0, .int .i64 0] 28)).alloc (.cells #[.int .u8 109, .int .u8 111, .int .u8 100, .int .u8 117, .int .u8 108, .int .u8 101, .int .u8 32, .int .u8 109, .int .u8 32, .int .u8 123, .int .u8 32, .int .u8 108, .int .u8 101, .int .u8 116, .int .u8 32, .int .u8 120, .int .u8 32, .int .u8 61, .int .u8 32, .int .u8 49, .int .u8 59, .int .u8 32, .int .u8 125] 5)) = .ok (.slice (some ⟨x1.heap.size + 1, 0, none⟩) 23 23) ((x1.alloc (.cells #[.int .i64 0, .int .i64 0] 28)).alloc (.cells #[.int .u8 109, .int .u8 111, .int .u8 100, .int .u8 117, .int .u8 108, .int .u8 101, .int .u8 32, .int .u8 109, .int .u8 32, .int .u8 123, .int .u8 32, .int .u8 108, .int .u8 101, .int .u8 116, .int .u8 32, .int .u8 120, .int .u8 32, .int .u8 61, .int .u8 32, .int .u8 49, .int .u8 59, .int .u8 32, .int .u8 125] 5 (23, 24))) := by
    have h := HK.out (x1.alloc (.cells #[.int .i64 0, .int .i64 0] 28)) #[.int .u8 109, .int .u8 111, .int .u8 100, .int .u8 117, .int .u8 108, .int .u8 101, .int .u8 32, .int .u8 109, .int .u8 32, .int .u8 123, .int .u8 32, .int .u8 108, .int .u8 101, .int .u8 116, .int .u8 32, .int .u8 120, .int .u8 32, .int .u8 61, .int .u8 32, .int .u8 49, .int .u8 59, .int .u8 32, .int .u8 125] 23 23
    rw [hz2] at h
    exact h
  have hBa2 := HA.out (x1.alloc (.cells #[.int .i64 0, .int .i64 0] 28)) (.cells #[.int .u8 109, .int .u8 111, .int .u8 100, .int .u8 117, .int .u8 108, .int .u8 101, .int .u8 32, .int .u8 109, .int .u8 32, .int .u8 123, .int .u8 32, .int .u8 108, .int .u8 101, .int .u8 116, .int .u8 32, .int .u8 120, .int .u8 32, .int .u8 61, .int .u8 32, .int .u8 49, .int .u8 59, .int .u8 32, .int .u8 125] 5 (23, 24)) hH1
  have hs2 : T1.IsSrc ((x1.alloc (.cells #[.int .i64 0, .int .i64 0] 28)).alloc (.cells #[.int .u8 109, .int .u8 111, .int .u8 100, .int .u8 117, .int .u8 108, .int .u8 101, .int .u8 32, .int .u8 109, .int .u8 32, .int .u8 123, .int .u8 32, .int .u8 108, .int .u8 101, .int .u8 116, .int .u8 32, .int .u8 120, .int .u8 32, .int .u8 61, .int .u8 32, .int .u8 49, .int .u8 59, .int .u8 32, .int .u8 125] 5 (23, 24))) (.slice (some ⟨x1.heap.size + 1, 0, none⟩) 23 23) ws3 := by
    have h := src_lit (x1.alloc (.cells #[.int .i64 0, .int .i64 0] 28)) ws3 (23, 24)
    rw [hz2] at h
    exact h
  have hf2 := faceM_any ((x1.alloc (.cells #[.int .i64 0, .int .i64 0] 28)).alloc (.cells #[.int .u8 109, .int .u8 111, .int .u8 100, .int .u8 117, .int .u8 108, .int .u8 101, .int .u8 32, .int .u8 109, .int .u8 32, .int .u8 123, .int .u8 32, .int .u8 108, .int .u8 101, .int .u8 116, .int .u8 32, .int .u8 120, .int .u8 32, .int .u8 61, .int .u8 32, .int .u8 49, .int .u8 59, .int .u8 32, .int .u8 125] 5 (23, 24))) _ ws3 hs2 (by decide) (HB.out _ hBa2).1 (HB.out _ hBa2).2
  rw [wk3] at hf2
  go_wp2_with fail
  refine hf2.mono ?_
  rintro e2 x2 ⟨hb2, v2, rfl, ho2⟩
  have hC2 : Below (x1.alloc (.cells #[.int .i64 0, .int .i64 0] 28)).heap.size (x1.alloc (.cells #[.int .i64 0, .int .i64 0] 28)) x2 := ((Below.refl _ _).alloc (Nat.le_refl _) (.cells #[.int .u8 109, .int .u8 111, .int .u8 100, .int .u8 117, .int .u8 108, .int .u8 101, .int .u8 32, .int .u8 109, .int .u8 32, .int .u8 123, .int .u8 32, .int .u8 108, .int .u8 101, .int .u8 116, .int .u8 32, .int .u8 120, .int .u8 32, .int .u8 61, .int .u8 32, .int .u8 49, .int .u8 59, .int .u8 32, .int .u8 125] 5 (23, 24))).trans (hb2.mono (by simp))
  have hD2 : Below w.heap.size w x2 := hH1.trans (hC2.mono hH1.size)
  have o2_0 := own_below q1_0 hC2
  have p2_0 := (hC2.block (x0.heap.size) (Array.getElem?_eq_some_iff.1 r1_0).1).trans r1_0
  have p2_1 := (hC2.block (x1.heap.size) (Array.getElem?_eq_some_iff.1 kp1).1).trans kp1
  clear hf2 hs2 hb2 hBa2 hC2 kc2
  obtain ⟨Ms, hMs, hrow, hmods⟩ := ho2
  obtain ⟨M, rfl⟩ : ∃ M, Ms = [M] := List.length_eq_one_iff.1 (by have := congrArg List.length hMs; simpa using this)
  have hMm : M.m = ⟨[109], [], [⟨[120], false, [], [wn 1 0 1 [] 20], 1, 16⟩], 1, 8⟩ := by simpa using hMs
  have hMo := hmods.own M (by simp)
  have hDl : M.D.length = 1 := by have := congrArg List.length hMo.eq; rw [hMm] at this; simpa using this
  have hdf := hMo.dfs
  rw [hDl] at hdf
  obtain ⟨da, dc, hvD⟩ := own_len hdf
  clear hMs hmods hMo hdf hMm hDl
  have hG2 : Below x2.heap.size x2 (x2.alloc (.cells #[.int .i64 0, .int .i64 0] 28)) := (Below.refl _ _).alloc (Nat.le_refl _) _
  have kp2 : (x2.alloc (.cells #[.int .i64 0, .int .i64 0] 28)).heap[x2.heap.size]? = some (.cells #[.int .i64 0, .int .i64 0] 28) := heap_alloc_new _ _
  have hH2 := HA.out x2 (.cells #[.int .i64 0, .int .i64 0] 28) hD2
  have q2_0 := own_below o2_0 hG2
  have q2_1 := own_below hrow hG2
  have r2_0 := (hG2.block (x0.heap.size) (Array.getElem?_eq_some_iff.1 p2_0).1).trans p2_0
  have r2_1 := (hG2.block (x1.heap.size) (Array.getElem?_eq_some_iff.1 p2_1).1).trans p2_1
  clear hG2
  have hz3 : (x2.alloc (.cells #[.int .i64 0, .int .i64 0] 28)).heap.size = x2.heap.size + 1 := by simp
  have kc3 : (convert 22 22 (.slice (some ⟨x2.heap.size + 1, 0, none⟩) 3 3)).run Tryz.prog ((x2.alloc (.cells #[.int .i64 0, .int .i64 0] 28)).alloc (.cells #[.int .u8 102, .int .u8 32, .int .u8 49] 5)) = .ok (.slice (some ⟨x2.heap.size + 1, 0, none⟩) 3 3) ((x2.alloc (.cells #[.int .i64 0, .int .i64 0] 28)).alloc (.cells #[.int .u8 102, .int .u8 32, .int .u8 49] 5 (3, 4))) := by
    have h := HK.out (x2.alloc (.cells #[.int .i64 0, .int .i64 0] 28)) #[.int .u8 102, .int .u8 32, .int .u8 49] 3 3
    rw [hz3] at h
    exact h
  have hBa3 := HA.out (x2.alloc (.cells #[.int .i64 0, .int .i64 0] 28)) (.cells #[.int .u8 102, .int .u8 32, .int .u8 49] 5 (3, 4)) hH2
  have hs3 : T1.IsSrc ((x2.alloc (.cells #[.int .i64 0, .int .i64 0] 28)).alloc (.cells #[.int .u8 102, .int .u8 32, .int .u8 49] 5 (3, 4))) (.slice (some ⟨x2.heap.size + 1, 0, none⟩) 3 3) ws4 := by
    have h := src_lit (x2.alloc (.cells #[.int .i64 0, .int .i64 0] 28)) ws4 (3, 4)
    rw [hz3] at h
    exact h
  have hf3 := faceN_any ((x2.alloc (.cells #[.int .i64 0, .int .i64 0] 28)).alloc (.cells #[.int .u8 102, .int .u8 32, .int .u8 49] 5 (3, 4))) _ ws4 hs3 (by decide) (HB.out _ hBa3).1 (HB.out _ hBa3).2
  rw [wk4] at hf3
  go_wp2_with fail
  refine hf3.mono ?_
  rintro e3 x3 ⟨hb3, rfl⟩
  have hC3 : Below (x2.alloc (.cells #[.int .i64 0, .int .i64 0] 28)).heap.size (x2.alloc (.cells #[.int .i64 0, .int .i64 0] 28)) x3 := ((Below.refl _ _).alloc (Nat.le_refl _) (.cells #[.int .u8 102, .int .u8 32, .int .u8 49] 5 (3, 4))).trans (hb3.mono (by simp))
  have hD3 : Below w.heap.size w x3 := hH2.trans (hC3.mono hH2.size)
  have o3_0 := own_below q2_0 hC3
  have o3_1 := own_below q2_1 hC3
  have p3_0 := (hC3.block (x0.heap.size) (Array.getElem?_eq_some_iff.1 r2_0).1).trans r2_0
  have p3_1 := (hC3.block (x1.heap.size) (Array.getElem?_eq_some_iff.1 r2_1).1).trans r2_1
  have p3_2 := (hC3.block (x2.heap.size) (Array.getElem?_eq_some_iff.1 kp2).1).trans kp2
  clear hf3 hs3 hb3 hBa3 hC3 kc3
  have hG3 : Below x3.heap.size x3 (x3.alloc (.cells #[.int .i64 1, .int .i64 3] 28)) := (Below.refl _ _).alloc (Nat.le_refl _) _
  have kp3 : (x3.alloc (.cells #[.int .i64 1, .int .i64 3] 28)).heap[x3.heap.size]? = some (.cells #[.int .i64 1, .int .i64 3] 28) := heap_alloc_new _ _
  have hH3 := HA.out x3 (.cells #[.int .i64 1, .int .i64 3] 28) hD3
  have q3_0 := own_below o3_0 hG3
  have q3_1 := own_below o3_1 hG3
  have r3_0 := (hG3.block (x0.heap.size) (Array.getElem?_eq_some_iff.1 p3_0).1).trans p3_0
  have r3_1 := (hG3.block (x1.heap.size) (Array.getElem?_eq_some_iff.1 p3_1).1).trans p3_1
  have r3_2 := (hG3.block (x2.heap.size) (Array.getElem?_eq_some_iff.1 p3_2).1).trans p3_2
  clear hG3
  obtain ⟨g1, c1, rfl, hc1, _, hn1⟩ := own_cells q3_0 (by decide)
  obtain ⟨g2, c2, rfl, hc2, _, hn2⟩ := own_cells q3_1 (by simp)
  have n0 : (x3.alloc (.cells #[.int .i64 1, .int .i64 3] 28)).cell? ⟨g1, 0, none⟩ = some (.int .i8 11) := hn1 0 (by decide)
  have n1 : (x3.alloc (.cells #[.int .i64 1, .int .i64 3] 28)).cell? ⟨g1, 1, none⟩ = some (.int .i64 2) := hn1 1 (by decide)
  have n2 : (x3.alloc (.cells #[.int .i64 1, .int .i64 3] 28)).cell? ⟨g1, 2, none⟩ = some (.int .i64 0) := hn1 2 (by decide)
  have n3 : (x3.alloc (.cells #[.int .i64 1, .int .i64 3] 28)).cell? ⟨g1, 3, none⟩ = some (.string ⟨#[]⟩) := hn1 3 (by decide)
  have n4 : (x3.alloc (.cells #[.int .i64 1, .int .i64 3] 28)).cell? ⟨g1, 4, none⟩ = some (.string ⟨#[]⟩) := hn1 4 (by decide)
  have n5 : (x3.alloc (.cells #[.int .i64 1, .int .i64 3] 28)).cell? ⟨g1, 5, none⟩ = some (.string ⟨#[]⟩) := hn1 5 (by decide)
  have n6 : (x3.alloc (.cells #[.int .i64 1, .int .i64 3] 28)).cell? ⟨g1, 6, none⟩ = some (.int .i64 1) := hn1 6 (by decide)
  have n7 : (x3.alloc (.cells #[.int .i64 1, .int .i64 3] 28)).cell? ⟨g1, 7, none⟩ = some (.int .i64 7) := hn1 7 (by decide)
  have m2 : (x3.alloc (.cells #[.int .i64 1, .int .i64 3] 28)).cell? ⟨g2, 2, none⟩ = some (.slice da 1 dc) := (hn2 2 (by simp)).trans (by rw [← hvD]; rfl)
  have s0 : (x3.alloc (.cells #[.int .i64 1, .int .i64 3] 28)).cell? ⟨x0.heap.size, 0, none⟩ = some (.int .i64 0) := (block_cells r3_0).1 0
  have s1 : (x3.alloc (.cells #[.int .i64 1, .int .i64 3] 28)).cell? ⟨x0.heap.size, 1, none⟩ = some (.int .i64 0) := (block_cells r3_0).1 1
  have t0 : (x3.alloc (.cells #[.int .i64 1, .int .i64 3] 28)).cell? ⟨x3.heap.size, 0, none⟩ = some (.int .i64 1) := (block_cells kp3).1 0
  have t1 : (x3.alloc (.cells #[.int .i64 1, .int .i64 3] 28)).cell? ⟨x3.heap.size, 1, none⟩ = some (.int .i64 3) := (block_cells kp3).1 1
  clear hn1 hn2 r3_0 r3_1 r3_2 kp3
  have HF : Aside (Below w.heap.size w (x3.alloc (.cells #[.int .i64 1, .int .i64 3] 28))) := hH3
  have hq : ((S [62, 105, 108, 63]).toList == [62, 105, 108, 63]) = true := by rw [beq_SL]; simp
  go_wp2_with fail
  go_ret
  exact ⟨rfl, HF.out⟩
end Go.Proofs.YtohjfikjbeafiaaGreatDoor
