/- The face of the parser (parse.Expr). The face of the parser (parse.Type). -/
import Derived.Test.YtohjfikjbeafiaaGreatDoorGaw
namespace Go.Proofs.YtohjfikjbeafiaaGreatDoor
open Go.RowKit Ps
set_option maxRecDepth 100000
set_option linter.unusedSimpArgs false

set_option maxHeartbeats 8000000 in
theorem wholeN_any (w : World) (v : Value) (bs : List UInt8) (hs : T1.IsSrc w v bs) (hl : bs.length ≤ 60000) (hv : T1.Vars w) (h2 : 6 ≤ w.heap.size) :
    Calls Tryz.prog 56 #[v, .func (.func 57) #[] #[]] w (WhEnd OwnN (.slice none 0 0) w (exprF bs)) := by
  have hmf : ∀ (fn : Fn) (first cap : Array Value) (w : World), (Instr.makeFunc fn first cap).run Tryz.prog w = .ok (.func fn first cap) w := fun _ _ _ _ => rfl
  have hB2 : Below w.heap.size w ((w.alloc (.cells #[.int .i64 0] 26)).alloc (.cells #[.int .i64 0, .int .i64 0] 28)) := ((Below.refl _ _).alloc (Nat.le_refl _) _).alloc (by simp) _
  have hT := T1.tokens_src ((w.alloc (.cells #[.int .i64 0] 26)).alloc (.cells #[.int .i64 0, .int .i64 0] 28)) v bs (hs.kept hB2) (by omega) (hv.below hB2) (by simp; omega)
  have hz2 : ((w.alloc (.cells #[.int .i64 0] 26)).alloc (.cells #[.int .i64 0, .int .i64 0] 28)).heap.size = w.heap.size + 2 := by simp
  have kA2 : ((w.alloc (.cells #[.int .i64 0] 26)).alloc (.cells #[.int .i64 0, .int .i64 0] 28)).heap[w.heap.size]? = some (.cells #[.int .i64 0] 26) := (Below.heap_alloc _ _ _ (by simp)).trans (heap_alloc_new w (.cells #[.int .i64 0] 26))
  have kB2 : ((w.alloc (.cells #[.int .i64 0] 26)).alloc (.cells #[.int .i64 0, .int .i64 0] 28)).heap[w.heap.size + 1]? = some (.cells #[.int .i64 0, .int .i64 0] 28) := by
    have h := heap_alloc_new (w.alloc (.cells #[.int .i64 0] 26)) (.cells #[.int .i64 0, .int .i64 0] 28)
    rw [show (w.alloc (.cells #[.int .i64 0] 26)).heap.size = w.heap.size + 1 by simp] at h
    exact h
  obtain ⟨va, vc, rfl⟩ := hs.shape
  cases hall : T1.Tx.all bs with
  | error q =>
    obtain ⟨er, k⟩ := q
    rw [hall] at hT
    have hF : Aside (exprF bs = .error (er, plc bs k)) := by show _ = _; unfold exprF srcW; rw [hall]
    have her : er ≠ 0 := by have := all_err _ _ hall; omega
    have her' : (er != 0) = true := by simpa using her
    have her2 : (er == 0) = false := by simpa using her
    clear hall hs
    go_enter_defers Tryz.func56, Tryz.ntmps56
    go_wp2_with fail
    refine hT.mono ?_
    rintro e3 w3 ⟨hB3, rfl⟩
    have kA := (hB3.block (w.heap.size) (by omega)).trans kA2
    have kB := (hB3.block (w.heap.size + 1) (by omega)).trans kB2
    have cA : w3.cell? ⟨w.heap.size, 0, none⟩ = some (.int .i64 0) := (block_cells kA).1 0
    have cB : w3.cell? ⟨w.heap.size + 1, 0, none⟩ = some (.int .i64 0) := (block_cells kB).1 0
    have cB2 : w3.cell? ⟨w.heap.size + 1, 1, none⟩ = some (.int .i64 0) := (block_cells kB).1 1
    have fA := (block_cells kA).2
    have fB := (block_cells kB).2
    have hBw : Below w.heap.size w w3 := hB2.trans (hB3.mono (by omega))
    have HP : Aside (plc bs k = ((T1.Tx.lnTo bs k : Int) + 1, (k : Int) - (T1.Tx.stTo bs k : Int) + 1)) := rfl
    generalize (T1.Tx.lnTo bs k : Int) + 1 = pln at *
    generalize (k : Int) - (T1.Tx.stTo bs k : Int) + 1 = pco at *
    have hst : ∃ w4, w4 = ((w3.setCell ⟨w.heap.size, 0, none⟩ (.int .i64 er)).setCell ⟨w.heap.size + 1, 0, none⟩ (.int .i64 pln)).setCell ⟨w.heap.size + 1, 1, none⟩ (.int .i64 pco) := ⟨_, rfl⟩
    obtain ⟨w4, hw4⟩ := hst
    have kA4 : w4.heap[w.heap.size]? = some (.cells #[.int .i64 er] 26 (0, 0)) := by rw [hw4, set_keep (by omega), set_keep (by omega)]; simp [World.setCell, Array.getElem?_modify, kA]
    have kB4 : w4.heap[w.heap.size + 1]? = some (.cells #[.int .i64 pln, .int .i64 pco] 28 (0, 0)) := by
      have h1 : (w3.setCell ⟨w.heap.size, 0, none⟩ (.int .i64 er)).heap[w.heap.size + 1]? = some (.cells #[.int .i64 0, .int .i64 0] 28 (0, 0)) := (set_keep (by omega)).trans kB
      rw [hw4]; simp [World.setCell, Array.getElem?_modify] at h1 ⊢; simp [h1, kB]
    have hB4 : Below w.heap.size w w4 := by rw [hw4]; exact ((hBw.setCell (by simp) _).setCell (by simp) _).setCell (by simp) _
    have HW4 : Aside (((w3.setCell ⟨w.heap.size, 0, none⟩ (.int .i64 er)).setCell ⟨w.heap.size + 1, 0, none⟩ (.int .i64 pln)).setCell ⟨w.heap.size + 1, 1, none⟩ (.int .i64 pco) = w4) := hw4.symm
    have HB : Aside (∀ d e f, Below w.heap.size w ((((w4.setCell ⟨w.heap.size, 0, none⟩ d).setCell ⟨w.heap.size + 1, 0, none⟩ e).setCell ⟨w.heap.size + 1, 1, none⟩ f).drew)) := fun d e f => below_drew (((hB4.setCell (by simp) _).setCell (by simp) _).setCell (by simp) _)
    have dA : w4.cell? ⟨w.heap.size, 0, none⟩ = some (.int .i64 er) := (block_cells kA4).1 0
    have dB : w4.cell? ⟨w.heap.size + 1, 0, none⟩ = some (.int .i64 pln) := (block_cells kB4).1 0
    have dB2 : w4.cell? ⟨w.heap.size + 1, 1, none⟩ = some (.int .i64 pco) := (block_cells kB4).1 1
    have gA := (block_cells kA4).2
    have gB := (block_cells kB4).2
    clear hT kA kB kA2 kB2 hB3 hB2 hz2 kA4 kB4 hw4 hBw hB4
    go_upto_region 3 with fail
    rw [HW4.out]
    clear HW4 cA cB cB2 fA fB
    go_region
    all_goals
      go_wp2_with fail
      simp [bodyPostD, Leaves, settle, results, Tryz.results56, go_sem, dA, dB, dB2]
      exact ⟨HB.out _ _ _, by rw [hF.out, HP.out]⟩
  | ok l =>
    rw [hall] at hT
    have hlen := pts_len hall
    have hTS := pts_s hall hl
    have HF : Aside (exprF bs = finW (ptsOf bs l) (ptEnd bs) (exprV (ptsOf bs l) (ptEnd bs))) := by show _ = _; unfold exprF srcW; rw [hall]
    have hlen2 : l.length = (ptsOf bs l).length := by simp [ptsOf]
    have hend : ptEnd bs = ⟨0, 0, [], (T1.Tx.lnTo bs bs.length : Int) + 1, (bs.length : Int) - (T1.Tx.stTo bs bs.length : Int) + 1⟩ := rfl
    have he : (ptEnd bs).kind = 0 := rfl
    clear hall
    generalize hLe : ptsOf bs l = L at *
    have hcs : T1.tkCells bs l = (L.map tcs).flatten := by rw [tk_cells, hLe]
    clear hLe
    go_enter_defers Tryz.func56, Tryz.ntmps56
    go_wp2_with fail
    refine hT.mono ?_
    rintro e3 w3 ⟨hB3, v3, rfl, hown3⟩
    have kA := (hB3.block (w.heap.size) (by omega)).trans kA2
    have kB := (hB3.block (w.heap.size + 1) (by omega)).trans kB2
    have cA : w3.cell? ⟨w.heap.size, 0, none⟩ = some (.int .i64 0) := (block_cells kA).1 0
    have cB : w3.cell? ⟨w.heap.size + 1, 0, none⟩ = some (.int .i64 0) := (block_cells kB).1 0
    have cB2 : w3.cell? ⟨w.heap.size + 1, 1, none⟩ = some (.int .i64 0) := (block_cells kB).1 1
    have fA := (block_cells kA).2
    have fB := (block_cells kB).2
    have hBw : Below w.heap.size w w3 := hB2.trans (hB3.mono (by omega))
    rw [hcs, hlen2] at hown3
    have hz3 := hB3.size
    -- the three stores
    have hst : ∃ w4, w4 = ((w3.setCell ⟨w.heap.size, 0, none⟩ (.int .i64 0)).setCell ⟨w.heap.size + 1, 0, none⟩ (.int .i64 0)).setCell ⟨w.heap.size + 1, 1, none⟩ (.int .i64 0) := ⟨_, rfl⟩
    obtain ⟨w4, hw4⟩ := hst
    have kA4 : w4.heap[w.heap.size]? = some (.cells #[.int .i64 0] 26 (0, 0)) := by rw [hw4, set_keep (by omega), set_keep (by omega)]; simp [World.setCell, Array.getElem?_modify, kA]
    have kB4 : w4.heap[w.heap.size + 1]? = some (.cells #[.int .i64 0, .int .i64 0] 28 (0, 0)) := by
      have h1 : (w3.setCell ⟨w.heap.size, 0, none⟩ (.int .i64 0)).heap[w.heap.size + 1]? = some (.cells #[.int .i64 0, .int .i64 0] 28 (0, 0)) := (set_keep (by omega)).trans kB
      rw [hw4]; simp [World.setCell, Array.getElem?_modify] at h1 ⊢; simp [h1, kB]
    have hB4 : Below w.heap.size w w4 := by rw [hw4]; exact ((hBw.setCell (by simp) _).setCell (by simp) _).setCell (by simp) _
    have hg4a : w3.grownBy (w3.setCell ⟨w.heap.size, 0, none⟩ (.int .i64 0)) (some (w.heap.size)) := grownBy_set (grownBy_refl w3 _) _
    have hg4b : (w3.setCell ⟨w.heap.size, 0, none⟩ (.int .i64 0)).grownBy w4 (some (w.heap.size + 1)) := by rw [hw4]; exact grownBy_set (grownBy_set (grownBy_refl _ _) _) _
    have hown4 : w4.ownsRow (((w.alloc (.cells #[.int .i64 0] 26)).alloc (.cells #[.int .i64 0, .int .i64 0] 28)).heap.size) 194 5 v3 L.length ((L.map tcs).flatten) := (hown3.kept hg4a (.inr fun e => by have := (hown3.lt _ e).1; omega)).kept hg4b (.inr fun e => by have := ((hown3.kept hg4a (.inr fun e => by have := (hown3.lt _ e).1; omega)).lt _ e).1; omega)
    have hz4 : w3.heap.size ≤ w4.heap.size := Nat.le_trans hg4a.size hg4b.size
    have HW4 : Aside (((w3.setCell ⟨w.heap.size, 0, none⟩ (.int .i64 0)).setCell ⟨w.heap.size + 1, 0, none⟩ (.int .i64 0)).setCell ⟨w.heap.size + 1, 1, none⟩ (.int .i64 0) = w4) := hw4.symm
    have hen := endOf_any w4 _ bs (hs.kept hB4) (by omega)
    clear hT kA2 kB2 hB2 hcs hg4a hg4b hown3 hw4 hlen2
    go_wp2_with fail
    rw [HW4.out]
    clear HW4 cA cB cB2 fA fB kA kB hB3 hBw
    refine hen.mono ?_
    rintro e5 w5 ⟨rfl, hB5⟩
    have hro := readerOf_any w5 _ L.length v3 _ ((T1.Tx.lnTo bs bs.length : Int) + 1) ((bs.length : Int) - (T1.Tx.stTo bs bs.length : Int) + 1) (own_below hown4 hB5) (by omega) (by have := hB5.size; omega)
    clear hen hown4
    generalize hPl : (T1.Tx.lnTo bs bs.length : Int) + 1 = pln at *
    generalize hPc : (bs.length : Int) - (T1.Tx.stTo bs bs.length : Int) + 1 = pco at *
    clear hPl hPc
    go_wp2_with fail
    refine hro.mono ?_
    rintro e6 w6 ⟨v6, rfl, hown6, hB6⟩
    have hown6' : w6.ownsRow (((w.alloc (.cells #[.int .i64 0] 26)).alloc (.cells #[.int .i64 0, .int .i64 0] 28)).heap.size) 194 5 v6 (L.length + 1) ((L.map tcs).flatten ++ tcs (ptEnd bs)) := by rw [hend]; exact hown6
    clear hown6 hro
    clear hend
    generalize hEe : ptEnd bs = pe0 at *
    clear hEe
    have hz6 := hB6.size
    have hz5 := hB5.size
    have hfo := forms_any w6
    go_wp2_with fail
    refine hfo.mono ?_
    rintro e7 w7 ⟨rfl, h7⟩
    have hat := atoms_any w7
    clear hfo
    go_wp2_with fail
    refine hat.mono ?_
    rintro e8 w8 ⟨rfl, h8⟩
    clear hat
    have hpn := prs_new hown6' h7 h8 (by omega)
    obtain ⟨_, m7, _, B7⟩ := h7
    obtain ⟨_, m8, _, B8⟩ := h8
    have z7 := B7.size
    have z8 := B8.size
    obtain ⟨sa, sc, rfl⟩ := own_len hown6'
    generalize hPB : w8.alloc (.cells #[.slice sa (L.length + 1) sc, .int .i64 0, .int .i64 0, .int .i64 0, .int .i64 0, .int .i64 0, .int .i64 0, .int .i64 0, .int .i64 0, .int .i64 0, .int .i64 0, .int .i64 0, .map (some w6.heap.size), .map (some w7.heap.size), .int .i64 0] 132) = w9 at hpn
    obtain ⟨P9, M9⟩ := hpn
    have hB89 : Below w8.heap.size w8 w9 := by rw [← hPB]; exact (Below.refl _ _).alloc (Nat.le_refl _) _
    have HW9 : Aside _ := hPB
    have hz9 := hB89.size
    have hB49 : Below (w.heap.size + 2) w4 w9 := (((hB5.mono (by omega)).trans (hB6.mono (by omega))).trans ((B7.mono (by omega)).trans (B8.mono (by omega)))).trans (hB89.mono (by omega))
    have kA9 := (hB49.block (w.heap.size) (by omega)).trans kA4
    have kB9 := (hB49.block (w.heap.size + 1) (by omega)).trans kB4
    have hBw9 : Below w.heap.size w w9 := hB4.trans (hB49.mono (by omega))
    have hrd := readN he hTS M9 P9
    generalize hPbe : w8.heap.size = pb at *
    clear hPB hown6' m7 m8 B7 B8 hB5 hB6 hB89 hB49 hB4 kA4 kB4 M9
    go_wp2_with fail
    rw [HW9.out]
    clear HW9
    refine hrd.mono ?_
    intro e10 w10 hR
    have hkeep : ∀ W, w9.grownBy W (some pb) → W.heap[w.heap.size]? = some (.cells #[.int .i64 0] 26 (0, 0)) ∧ W.heap[w.heap.size + 1]? = some (.cells #[.int .i64 0, .int .i64 0] 28 (0, 0)) ∧ Below w.heap.size w W ∧ w.heap.size + 1 < W.heap.size := fun W hg => ⟨(hg.block (w.heap.size) (by omega) (by simp; omega)).trans kA9, (hg.block (w.heap.size + 1) (by omega) (by simp; omega)).trans kB9, hBw9.grown hg (by omega) (fun x e => by cases e; omega), by have := hg.size; omega⟩
    have HK : Aside _ := hkeep
    have hpb9 := P9.lt
    clear hrd hkeep kA9 kB9 hBw9 P9
    rcases hv1 : exprV L pe0 with j | ⟨a, j, lg⟩
    · rw [hv1] at hR
      obtain ⟨rfl, g10⟩ := hR
      have HX : Aside (exprF bs = .error (15, pl (tok L pe0 j))) := by show _ = _; rw [HF.out, hv1]; rfl
      obtain ⟨kA, kB, hBf, hlB⟩ := HK.out w10 g10
      have cA : w10.cell? ⟨w.heap.size, 0, none⟩ = some (.int .i64 0) := (block_cells kA).1 0
      have cB : w10.cell? ⟨w.heap.size + 1, 0, none⟩ = some (.int .i64 0) := (block_cells kB).1 0
      have cB2 : w10.cell? ⟨w.heap.size + 1, 1, none⟩ = some (.int .i64 0) := (block_cells kB).1 1
      have fA := (block_cells kA).2 0
      have fB := (block_cells kB).2 0
      have fB2 := (block_cells kB).2 1
      have hlA : w.heap.size < w10.heap.size := by omega
      have HBF : Aside (∀ a b c o, Below w.heap.size w ((((w10.setCell ⟨w.heap.size, 0, none⟩ a).setCell ⟨w.heap.size + 1, 0, none⟩ b).setCell ⟨w.heap.size + 1, 1, none⟩ c).alloc o).drew) := fun a b c o => below_drew ((((hBf.setCell (by simp) _).setCell (by simp) _).setCell (by simp) _).alloc (by simp [World.setCell]; omega) _)
      have hC := fun o => caught (er := 15) (ln := (tok L pe0 j).ln) (co := (tok L pe0 j).co) kA kB (by omega) o
      have HCA : Aside _ := hC
      clear hC
      clear hv1 HF HK kA kB hBf g10
      go_wp2_with fail
      refine leaves_cons (f := 95) (args := #[.pointer (some ⟨w.heap.size, 0, none⟩), .pointer (some ⟨w.heap.size + 1, 0, none⟩)]) (by simp) (by simp [go_sem]) ?_
      refine (wcatchN_panicking (w.heap.size) (w.heap.size + 1) 0 0 0 15 (tok L pe0 j).ln (tok L pe0 j).co [] _ cA cB cB2 fA fB fB2 (by omega) hlA hlB).mono ?_
      rintro e u' w'' ⟨rfl, rfl, hw13⟩
      have hb13 : Below w.heap.size w w'' := by rw [hw13]; exact HBF.out _ _ _ _
      have k13 := HCA.out (.cells #[.int .i64 15, .int .i64 (tok L pe0 j).ln, .int .i64 (tok L pe0 j).co] 120)
      rw [← hw13] at k13
      have d0 : w''.cell? ⟨w.heap.size, 0, none⟩ = some (.int .i64 15) := (block_cells k13.1).1 0
      have d1 : w''.cell? ⟨w.heap.size + 1, 0, none⟩ = some (.int .i64 (tok L pe0 j).ln) := (block_cells k13.2).1 0
      have d2 : w''.cell? ⟨w.heap.size + 1, 1, none⟩ = some (.int .i64 (tok L pe0 j).co) := (block_cells k13.2).1 1
      clear hw13 k13 HCA HBF
      simp [Leaves, settle, results, Tryz.results56, go_sem, d0, d1, d2]
      exact ⟨hb13, by rw [HX.out]; rfl⟩
    rw [hv1] at hR
    obtain ⟨rv, n10, rfl, hO, P10, g10⟩ := hR
    have hjl := P10.at'
    by_cases hj : j < L.length
    · have hfn := finish_no P10 hj
      have HX : Aside (exprF bs = .error (15, pl (tok L pe0 j))) := by show _ = _; rw [HF.out, hv1]; show (if j < L.length then _ else _) = _; rw [if_pos hj]
      clear hv1 HF hO
      go_wp2_with fail
      refine hfn.mono ?_
      rintro e11 w11 ⟨rfl, g11⟩
      obtain ⟨kA, kB, hBf, hlB⟩ := HK.out w11 (grownBy_trans g10 g11)
      have cA : w11.cell? ⟨w.heap.size, 0, none⟩ = some (.int .i64 0) := (block_cells kA).1 0
      have cB : w11.cell? ⟨w.heap.size + 1, 0, none⟩ = some (.int .i64 0) := (block_cells kB).1 0
      have cB2 : w11.cell? ⟨w.heap.size + 1, 1, none⟩ = some (.int .i64 0) := (block_cells kB).1 1
      have fA := (block_cells kA).2 0
      have fB := (block_cells kB).2 0
      have fB2 := (block_cells kB).2 1
      have hlA : w.heap.size < w11.heap.size := by omega
      have HBF : Aside (∀ a b c o, Below w.heap.size w ((((w11.setCell ⟨w.heap.size, 0, none⟩ a).setCell ⟨w.heap.size + 1, 0, none⟩ b).setCell ⟨w.heap.size + 1, 1, none⟩ c).alloc o).drew) := fun a b c o => below_drew ((((hBf.setCell (by simp) _).setCell (by simp) _).setCell (by simp) _).alloc (by simp [World.setCell]; omega) _)
      have hC := fun o => caught (er := 15) (ln := (tok L pe0 j).ln) (co := (tok L pe0 j).co) kA kB (by omega) o
      have HCA : Aside _ := hC
      clear hC
      clear HK kA kB hBf g10 g11 hfn P10
      go_wp2_with fail
      refine leaves_cons (f := 95) (args := #[.pointer (some ⟨w.heap.size, 0, none⟩), .pointer (some ⟨w.heap.size + 1, 0, none⟩)]) (by simp) (by simp [go_sem]) ?_
      refine (wcatchN_panicking (w.heap.size) (w.heap.size + 1) 0 0 0 15 (tok L pe0 j).ln (tok L pe0 j).co [] _ cA cB cB2 fA fB fB2 (by omega) hlA hlB).mono ?_
      rintro e u' w'' ⟨rfl, rfl, hw13⟩
      have hb13 : Below w.heap.size w w'' := by rw [hw13]; exact HBF.out _ _ _ _
      have k13 := HCA.out (.cells #[.int .i64 15, .int .i64 (tok L pe0 j).ln, .int .i64 (tok L pe0 j).co] 120)
      rw [← hw13] at k13
      have d0 : w''.cell? ⟨w.heap.size, 0, none⟩ = some (.int .i64 15) := (block_cells k13.1).1 0
      have d1 : w''.cell? ⟨w.heap.size + 1, 0, none⟩ = some (.int .i64 (tok L pe0 j).ln) := (block_cells k13.2).1 0
      have d2 : w''.cell? ⟨w.heap.size + 1, 1, none⟩ = some (.int .i64 (tok L pe0 j).co) := (block_cells k13.2).1 1
      clear hw13 k13 HCA HBF
      simp [Leaves, settle, results, Tryz.results56, go_sem, d0, d1, d2]
      exact ⟨hb13, by rw [HX.out]; rfl⟩
    obtain rfl : j = L.length := by omega
    have hfn := finish_yes P10
    have HX0 : Aside (exprF bs = match firstL (effE lm0 lg) with
      | some (c, p) => .error (c, p)
      | none => .ok a) := by show _ = _; rw [HF.out, hv1]; show (if L.length < L.length then _ else _) = _; rw [if_neg (by omega)]; rcases firstL (effE lm0 lg) with _ | ⟨c, p⟩ <;> rfl
    clear hv1 HF
    go_wp2_with fail
    refine hfn.mono ?_
    rintro e11 w11 ⟨rfl, n11, rfl⟩
    have htl := tell_any (P10.drewN n11)
    have hO11 : OwnN w9.heap.size (w10.drewN n11) rv a := hO.low (pb := pb) (grownBy_drewN (grownBy_refl w10 _) n11) (by omega)
    have g11 : w9.grownBy (w10.drewN n11) (some pb) := grownBy_drewN g10 n11
    clear hfn hO P10 g10
    rcases hf1 : firstL (effE lm0 lg) with _ | ⟨c, p⟩
    · rw [hf1] at htl HX0
      go_wp2_with fail
      refine htl.mono ?_
      rintro e12 w12 ⟨g12, rfl⟩
      have hO12 := hO11.low g12 (by omega)
      obtain ⟨kA, kB, hBf, hlB⟩ := HK.out w12 (grownBy_trans g11 g12)
      have cA : w12.cell? ⟨w.heap.size, 0, none⟩ = some (.int .i64 0) := (block_cells kA).1 0
      have cB : w12.cell? ⟨w.heap.size + 1, 0, none⟩ = some (.int .i64 0) := (block_cells kB).1 0
      have cB2 : w12.cell? ⟨w.heap.size + 1, 1, none⟩ = some (.int .i64 0) := (block_cells kB).1 1
      have fA := (block_cells kA).2
      have fB := (block_cells kB).2
      have HBF : Aside (∀ a b c, Below w.heap.size w (((w12.setCell ⟨w.heap.size, 0, none⟩ a).setCell ⟨w.heap.size + 1, 0, none⟩ b).setCell ⟨w.heap.size + 1, 1, none⟩ c)) := fun a b c => ((hBf.setCell (by simp) _).setCell (by simp) _).setCell (by simp) _
      have HOF : Aside (∀ x b c, OwnN w.heap.size (((w12.setCell ⟨w.heap.size, 0, none⟩ x).setCell ⟨w.heap.size + 1, 0, none⟩ b).setCell ⟨w.heap.size + 1, 1, none⟩ c) rv a) := fun x b c => ((hO12.low (grownBy_set (grownBy_refl w12 (some (w.heap.size))) _) (by omega)).low (grownBy_set (grownBy_set (grownBy_refl _ (some (w.heap.size + 1))) _) _) (by omega)).down (by omega)
      clear HK kA kB hBf g11 g12 htl hO11 hO12
      go_wp2_with fail
      refine leaves_cons (f := 95) (args := #[.pointer (some ⟨w.heap.size, 0, none⟩), .pointer (some ⟨w.heap.size + 1, 0, none⟩)]) (by simp) (by simp [go_sem]) ?_
      refine (wcatchN_idle ⟨w.heap.size, 0, none⟩ ⟨w.heap.size + 1, 0, none⟩ _).mono ?_
      rintro e u' w'' ⟨rfl, rfl, rfl⟩
      simp [Leaves, settle, results, Tryz.results56, go_sem, cA, cB, cB2]
      exact ⟨HBF.out _ _ _, by rw [HX0.out]; exact ⟨_, rfl, HOF.out _ _ _⟩⟩
    · obtain ⟨pa, pc⟩ := p
      rw [hf1] at htl HX0
      go_wp2_with fail
      refine htl.mono ?_
      rintro e12 w12 ⟨g12, rfl⟩
      obtain ⟨kA, kB, hBf, hlB⟩ := HK.out w12 (grownBy_trans g11 g12)
      have cA : w12.cell? ⟨w.heap.size, 0, none⟩ = some (.int .i64 0) := (block_cells kA).1 0
      have cB : w12.cell? ⟨w.heap.size + 1, 0, none⟩ = some (.int .i64 0) := (block_cells kB).1 0
      have cB2 : w12.cell? ⟨w.heap.size + 1, 1, none⟩ = some (.int .i64 0) := (block_cells kB).1 1
      have fA := (block_cells kA).2 0
      have fB := (block_cells kB).2 0
      have fB2 := (block_cells kB).2 1
      have hlA : w.heap.size < w12.heap.size := by omega
      have HBF : Aside (∀ a b c o, Below w.heap.size w ((((w12.setCell ⟨w.heap.size, 0, none⟩ a).setCell ⟨w.heap.size + 1, 0, none⟩ b).setCell ⟨w.heap.size + 1, 1, none⟩ c).alloc o).drew) := fun a b c o => below_drew ((((hBf.setCell (by simp) _).setCell (by simp) _).setCell (by simp) _).alloc (by simp [World.setCell]; omega) _)
      have hC := fun o => caught (er := c) (ln := pa) (co := pc) kA kB (by omega) o
      have HCA : Aside _ := hC
      clear hC
      clear HK kA kB hBf g11 g12 htl hO11
      go_wp2_with fail
      refine leaves_cons (f := 95) (args := #[.pointer (some ⟨w.heap.size, 0, none⟩), .pointer (some ⟨w.heap.size + 1, 0, none⟩)]) (by simp) (by simp [go_sem]) ?_
      refine (wcatchN_panicking (w.heap.size) (w.heap.size + 1) 0 0 0 c pa pc [] _ cA cB cB2 fA fB fB2 (by omega) hlA hlB).mono ?_
      rintro e u' w'' ⟨rfl, rfl, hw13⟩
      have hb13 : Below w.heap.size w w'' := by rw [hw13]; exact HBF.out _ _ _ _
      have k13 := HCA.out (.cells #[.int .i64 c, .int .i64 pa, .int .i64 pc] 120)
      rw [← hw13] at k13
      have d0 : w''.cell? ⟨w.heap.size, 0, none⟩ = some (.int .i64 c) := (block_cells k13.1).1 0
      have d1 : w''.cell? ⟨w.heap.size + 1, 0, none⟩ = some (.int .i64 pa) := (block_cells k13.2).1 0
      have d2 : w''.cell? ⟨w.heap.size + 1, 1, none⟩ = some (.int .i64 pc) := (block_cells k13.2).1 1
      clear hw13 k13 HCA HBF
      simp [Leaves, settle, results, Tryz.results56, go_sem, d0, d1, d2]
      exact ⟨hb13, by rw [HX0.out]⟩
end Go.Proofs.YtohjfikjbeafiaaGreatDoor
namespace Go.Proofs.YtohjfikjbeafiaaGreatDoor
open Go.RowKit Ps
set_option maxRecDepth 100000
set_option linter.unusedSimpArgs false

set_option maxHeartbeats 8000000 in
theorem wholeT_any (w : World) (v : Value) (bs : List UInt8) (hs : T1.IsSrc w v bs) (hl : bs.length ≤ 60000) (hv : T1.Vars w) (h2 : 6 ≤ w.heap.size) :
    Calls Tryz.prog 60 #[v, .func (.func 61) #[] #[]] w (WhEnd OwnT (.string ⟨#[]⟩) w (typeF bs)) := by
  have hmf : ∀ (fn : Fn) (first cap : Array Value) (w : World), (Instr.makeFunc fn first cap).run Tryz.prog w = .ok (.func fn first cap) w := fun _ _ _ _ => rfl
  have hB2 : Below w.heap.size w ((w.alloc (.cells #[.int .i64 0] 26)).alloc (.cells #[.int .i64 0, .int .i64 0] 28)) := ((Below.refl _ _).alloc (Nat.le_refl _) _).alloc (by simp) _
  have hT := T1.tokens_src ((w.alloc (.cells #[.int .i64 0] 26)).alloc (.cells #[.int .i64 0, .int .i64 0] 28)) v bs (hs.kept hB2) (by omega) (hv.below hB2) (by simp; omega)
  have hz2 : ((w.alloc (.cells #[.int .i64 0] 26)).alloc (.cells #[.int .i64 0, .int .i64 0] 28)).heap.size = w.heap.size + 2 := by simp
  have kA2 : ((w.alloc (.cells #[.int .i64 0] 26)).alloc (.cells #[.int .i64 0, .int .i64 0] 28)).heap[w.heap.size]? = some (.cells #[.int .i64 0] 26) := (Below.heap_alloc _ _ _ (by simp)).trans (heap_alloc_new w (.cells #[.int .i64 0] 26))
  have kB2 : ((w.alloc (.cells #[.int .i64 0] 26)).alloc (.cells #[.int .i64 0, .int .i64 0] 28)).heap[w.heap.size + 1]? = some (.cells #[.int .i64 0, .int .i64 0] 28) := by
    have h := heap_alloc_new (w.alloc (.cells #[.int .i64 0] 26)) (.cells #[.int .i64 0, .int .i64 0] 28)
    rw [show (w.alloc (.cells #[.int .i64 0] 26)).heap.size = w.heap.size + 1 by simp] at h
    exact h
  obtain ⟨va, vc, rfl⟩ := hs.shape
  cases hall : T1.Tx.all bs with
  | error q =>
    obtain ⟨er, k⟩ := q
    rw [hall] at hT
    have hF : Aside (typeF bs = .error (er, plc bs k)) := by show _ = _; unfold typeF srcW; rw [hall]
    have her : er ≠ 0 := by have := all_err _ _ hall; omega
    have her' : (er != 0) = true := by simpa using her
    have her2 : (er == 0) = false := by simpa using her
    clear hall hs
    go_enter_defers Tryz.func60, Tryz.ntmps60
    go_wp2_with fail
    refine hT.mono ?_
    rintro e3 w3 ⟨hB3, rfl⟩
    have kA := (hB3.block (w.heap.size) (by omega)).trans kA2
    have kB := (hB3.block (w.heap.size + 1) (by omega)).trans kB2
    have cA : w3.cell? ⟨w.heap.size, 0, none⟩ = some (.int .i64 0) := (block_cells kA).1 0
    have cB : w3.cell? ⟨w.heap.size + 1, 0, none⟩ = some (.int .i64 0) := (block_cells kB).1 0
    have cB2 : w3.cell? ⟨w.heap.size + 1, 1, none⟩ = some (.int .i64 0) := (block_cells kB).1 1
    have fA := (block_cells kA).2
    have fB := (block_cells kB).2
    have hBw : Below w.heap.size w w3 := hB2.trans (hB3.mono (by omega))
    have HP : Aside (plc bs k = ((T1.Tx.lnTo bs k : Int) + 1, (k : Int) - (T1.Tx.stTo bs k : Int) + 1)) := rfl
    generalize (T1.Tx.lnTo bs k : Int) + 1 = pln at *
    generalize (k : Int) - (T1.Tx.stTo bs k : Int) + 1 = pco at *
    have hst : ∃ w4, w4 = ((w3.setCell ⟨w.heap.size, 0, none⟩ (.int .i64 er)).setCell ⟨w.heap.size + 1, 0, none⟩ (.int .i64 pln)).setCell ⟨w.heap.size + 1, 1, none⟩ (.int .i64 pco) := ⟨_, rfl⟩
    obtain ⟨w4, hw4⟩ := hst
    have kA4 : w4.heap[w.heap.size]? = some (.cells #[.int .i64 er] 26 (0, 0)) := by rw [hw4, set_keep (by omega), set_keep (by omega)]; simp [World.setCell, Array.getElem?_modify, kA]
    have kB4 : w4.heap[w.heap.size + 1]? = some (.cells #[.int .i64 pln, .int .i64 pco] 28 (0, 0)) := by
      have h1 : (w3.setCell ⟨w.heap.size, 0, none⟩ (.int .i64 er)).heap[w.heap.size + 1]? = some (.cells #[.int .i64 0, .int .i64 0] 28 (0, 0)) := (set_keep (by omega)).trans kB
      rw [hw4]; simp [World.setCell, Array.getElem?_modify] at h1 ⊢; simp [h1, kB]
    have hB4 : Below w.heap.size w w4 := by rw [hw4]; exact ((hBw.setCell (by simp) _).setCell (by simp) _).setCell (by simp) _
    have HW4 : Aside (((w3.setCell ⟨w.heap.size, 0, none⟩ (.int .i64 er)).setCell ⟨w.heap.size + 1, 0, none⟩ (.int .i64 pln)).setCell ⟨w.heap.size + 1, 1, none⟩ (.int .i64 pco) = w4) := hw4.symm
    have HB : Aside (∀ d e f, Below w.heap.size w ((((w4.setCell ⟨w.heap.size, 0, none⟩ d).setCell ⟨w.heap.size + 1, 0, none⟩ e).setCell ⟨w.heap.size + 1, 1, none⟩ f).drew)) := fun d e f => below_drew (((hB4.setCell (by simp) _).setCell (by simp) _).setCell (by simp) _)
    have dA : w4.cell? ⟨w.heap.size, 0, none⟩ = some (.int .i64 er) := (block_cells kA4).1 0
    have dB : w4.cell? ⟨w.heap.size + 1, 0, none⟩ = some (.int .i64 pln) := (block_cells kB4).1 0
    have dB2 : w4.cell? ⟨w.heap.size + 1, 1, none⟩ = some (.int .i64 pco) := (block_cells kB4).1 1
    have gA := (block_cells kA4).2
    have gB := (block_cells kB4).2
    clear hT kA kB kA2 kB2 hB3 hB2 hz2 kA4 kB4 hw4 hBw hB4
    go_upto_region 3 with fail
    rw [HW4.out]
    clear HW4 cA cB cB2 fA fB
    go_region
    all_goals
      go_wp2_with fail
      simp [bodyPostD, Leaves, settle, results, Tryz.results60, go_sem, dA, dB, dB2]
      exact ⟨HB.out _ _ _, by rw [hF.out, HP.out]⟩
  | ok l =>
    rw [hall] at hT
    have hlen := pts_len hall
    have hTS := pts_s hall hl
    have HF : Aside (typeF bs = finW (ptsOf bs l) (ptEnd bs) (typeV (ptsOf bs l) (ptEnd bs))) := by show _ = _; unfold typeF srcW; rw [hall]
    have hlen2 : l.length = (ptsOf bs l).length := by simp [ptsOf]
    have hend : ptEnd bs = ⟨0, 0, [], (T1.Tx.lnTo bs bs.length : Int) + 1, (bs.length : Int) - (T1.Tx.stTo bs bs.length : Int) + 1⟩ := rfl
    have he : (ptEnd bs).kind = 0 := rfl
    clear hall
    generalize hLe : ptsOf bs l = L at *
    have hcs : T1.tkCells bs l = (L.map tcs).flatten := by rw [tk_cells, hLe]
    clear hLe
    go_enter_defers Tryz.func60, Tryz.ntmps60
    go_wp2_with fail
    refine hT.mono ?_
    rintro e3 w3 ⟨hB3, v3, rfl, hown3⟩
    have kA := (hB3.block (w.heap.size) (by omega)).trans kA2
    have kB := (hB3.block (w.heap.size + 1) (by omega)).trans kB2
    have cA : w3.cell? ⟨w.heap.size, 0, none⟩ = some (.int .i64 0) := (block_cells kA).1 0
    have cB : w3.cell? ⟨w.heap.size + 1, 0, none⟩ = some (.int .i64 0) := (block_cells kB).1 0
    have cB2 : w3.cell? ⟨w.heap.size + 1, 1, none⟩ = some (.int .i64 0) := (block_cells kB).1 1
    have fA := (block_cells kA).2
    have fB := (block_cells kB).2
    have hBw : Below w.heap.size w w3 := hB2.trans (hB3.mono (by omega))
    rw [hcs, hlen2] at hown3
    have hz3 := hB3.size
    -- the three stores
    have hst : ∃ w4, w4 = ((w3.setCell ⟨w.heap.size, 0, none⟩ (.int .i64 0)).setCell ⟨w.heap.size + 1, 0, none⟩ (.int .i64 0)).setCell ⟨w.heap.size + 1, 1, none⟩ (.int .i64 0) := ⟨_, rfl⟩
    obtain ⟨w4, hw4⟩ := hst
    have kA4 : w4.heap[w.heap.size]? = some (.cells #[.int .i64 0] 26 (0, 0)) := by rw [hw4, set_keep (by omega), set_keep (by omega)]; simp [World.setCell, Array.getElem?_modify, kA]
    have kB4 : w4.heap[w.heap.size + 1]? = some (.cells #[.int .i64 0, .int .i64 0] 28 (0, 0)) := by
      have h1 : (w3.setCell ⟨w.heap.size, 0, none⟩ (.int .i64 0)).heap[w.heap.size + 1]? = some (.cells #[.int .i64 0, .int .i64 0] 28 (0, 0)) := (set_keep (by omega)).trans kB
      rw [hw4]; simp [World.setCell, Array.getElem?_modify] at h1 ⊢; simp [h1, kB]
    have hB4 : Below w.heap.size w w4 := by rw [hw4]; exact ((hBw.setCell (by simp) _).setCell (by simp) _).setCell (by simp) _
    have hg4a : w3.grownBy (w3.setCell ⟨w.heap.size, 0, none⟩ (.int .i64 0)) (some (w.heap.size)) := grownBy_set (grownBy_refl w3 _) _
    have hg4b : (w3.setCell ⟨w.heap.size, 0, none⟩ (.int .i64 0)).grownBy w4 (some (w.heap.size + 1)) := by rw [hw4]; exact grownBy_set (grownBy_set (grownBy_refl _ _) _) _
    have hown4 : w4.ownsRow (((w.alloc (.cells #[.int .i64 0] 26)).alloc (.cells #[.int .i64 0, .int .i64 0] 28)).heap.size) 194 5 v3 L.length ((L.map tcs).flatten) := (hown3.kept hg4a (.inr fun e => by have := (hown3.lt _ e).1; omega)).kept hg4b (.inr fun e => by have := ((hown3.kept hg4a (.inr fun e => by have := (hown3.lt _ e).1; omega)).lt _ e).1; omega)
    have hz4 : w3.heap.size ≤ w4.heap.size := Nat.le_trans hg4a.size hg4b.size
    have HW4 : Aside (((w3.setCell ⟨w.heap.size, 0, none⟩ (.int .i64 0)).setCell ⟨w.heap.size + 1, 0, none⟩ (.int .i64 0)).setCell ⟨w.heap.size + 1, 1, none⟩ (.int .i64 0) = w4) := hw4.symm
    have hen := endOf_any w4 _ bs (hs.kept hB4) (by omega)
    clear hT kA2 kB2 hB2 hcs hg4a hg4b hown3 hw4 hlen2
    go_wp2_with fail
    rw [HW4.out]
    clear HW4 cA cB cB2 fA fB kA kB hB3 hBw
    refine hen.mono ?_
    rintro e5 w5 ⟨rfl, hB5⟩
    have hro := readerOf_any w5 _ L.length v3 _ ((T1.Tx.lnTo bs bs.length : Int) + 1) ((bs.length : Int) - (T1.Tx.stTo bs bs.length : Int) + 1) (own_below hown4 hB5) (by omega) (by have := hB5.size; omega)
    clear hen hown4
    generalize hPl : (T1.Tx.lnTo bs bs.length : Int) + 1 = pln at *
    generalize hPc : (bs.length : Int) - (T1.Tx.stTo bs bs.length : Int) + 1 = pco at *
    clear hPl hPc
    go_wp2_with fail
    refine hro.mono ?_
    rintro e6 w6 ⟨v6, rfl, hown6, hB6⟩
    have hown6' : w6.ownsRow (((w.alloc (.cells #[.int .i64 0] 26)).alloc (.cells #[.int .i64 0, .int .i64 0] 28)).heap.size) 194 5 v6 (L.length + 1) ((L.map tcs).flatten ++ tcs (ptEnd bs)) := by rw [hend]; exact hown6
    clear hown6 hro
    clear hend
    generalize hEe : ptEnd bs = pe0 at *
    clear hEe
    have hz6 := hB6.size
    have hz5 := hB5.size
    have hfo := forms_any w6
    go_wp2_with fail
    refine hfo.mono ?_
    rintro e7 w7 ⟨rfl, h7⟩
    have hat := atoms_any w7
    clear hfo
    go_wp2_with fail
    refine hat.mono ?_
    rintro e8 w8 ⟨rfl, h8⟩
    clear hat
    have hpn := prs_new hown6' h7 h8 (by omega)
    obtain ⟨_, m7, _, B7⟩ := h7
    obtain ⟨_, m8, _, B8⟩ := h8
    have z7 := B7.size
    have z8 := B8.size
    obtain ⟨sa, sc, rfl⟩ := own_len hown6'
    generalize hPB : w8.alloc (.cells #[.slice sa (L.length + 1) sc, .int .i64 0, .int .i64 0, .int .i64 0, .int .i64 0, .int .i64 0, .int .i64 0, .int .i64 0, .int .i64 0, .int .i64 0, .int .i64 0, .int .i64 0, .map (some w6.heap.size), .map (some w7.heap.size), .int .i64 0] 132) = w9 at hpn
    obtain ⟨P9, M9⟩ := hpn
    have hB89 : Below w8.heap.size w8 w9 := by rw [← hPB]; exact (Below.refl _ _).alloc (Nat.le_refl _) _
    have HW9 : Aside _ := hPB
    have hz9 := hB89.size
    have hB49 : Below (w.heap.size + 2) w4 w9 := (((hB5.mono (by omega)).trans (hB6.mono (by omega))).trans ((B7.mono (by omega)).trans (B8.mono (by omega)))).trans (hB89.mono (by omega))
    have kA9 := (hB49.block (w.heap.size) (by omega)).trans kA4
    have kB9 := (hB49.block (w.heap.size + 1) (by omega)).trans kB4
    have hBw9 : Below w.heap.size w w9 := hB4.trans (hB49.mono (by omega))
    have hrd := readT he hTS M9 P9
    generalize hPbe : w8.heap.size = pb at *
    clear hPB hown6' m7 m8 B7 B8 hB5 hB6 hB89 hB49 hB4 kA4 kB4 M9
    go_wp2_with fail
    rw [HW9.out]
    clear HW9
    refine hrd.mono ?_
    intro e10 w10 hR
    have hkeep : ∀ W, w9.grownBy W (some pb) → W.heap[w.heap.size]? = some (.cells #[.int .i64 0] 26 (0, 0)) ∧ W.heap[w.heap.size + 1]? = some (.cells #[.int .i64 0, .int .i64 0] 28 (0, 0)) ∧ Below w.heap.size w W ∧ w.heap.size + 1 < W.heap.size := fun W hg => ⟨(hg.block (w.heap.size) (by omega) (by simp; omega)).trans kA9, (hg.block (w.heap.size + 1) (by omega) (by simp; omega)).trans kB9, hBw9.grown hg (by omega) (fun x e => by cases e; omega), by have := hg.size; omega⟩
    have HK : Aside _ := hkeep
    have hpb9 := P9.lt
    clear hrd hkeep kA9 kB9 hBw9 P9
    rcases hv1 : typeV L pe0 with j | ⟨a, j, lg⟩
    · rw [hv1] at hR
      obtain ⟨rfl, g10⟩ := hR
      have HX : Aside (typeF bs = .error (15, pl (tok L pe0 j))) := by show _ = _; rw [HF.out, hv1]; rfl
      obtain ⟨kA, kB, hBf, hlB⟩ := HK.out w10 g10
      have cA : w10.cell? ⟨w.heap.size, 0, none⟩ = some (.int .i64 0) := (block_cells kA).1 0
      have cB : w10.cell? ⟨w.heap.size + 1, 0, none⟩ = some (.int .i64 0) := (block_cells kB).1 0
      have cB2 : w10.cell? ⟨w.heap.size + 1, 1, none⟩ = some (.int .i64 0) := (block_cells kB).1 1
      have fA := (block_cells kA).2 0
      have fB := (block_cells kB).2 0
      have fB2 := (block_cells kB).2 1
      have hlA : w.heap.size < w10.heap.size := by omega
      have HBF : Aside (∀ a b c o, Below w.heap.size w ((((w10.setCell ⟨w.heap.size, 0, none⟩ a).setCell ⟨w.heap.size + 1, 0, none⟩ b).setCell ⟨w.heap.size + 1, 1, none⟩ c).alloc o).drew) := fun a b c o => below_drew ((((hBf.setCell (by simp) _).setCell (by simp) _).setCell (by simp) _).alloc (by simp [World.setCell]; omega) _)
      have hC := fun o => caught (er := 15) (ln := (tok L pe0 j).ln) (co := (tok L pe0 j).co) kA kB (by omega) o
      have HCA : Aside _ := hC
      clear hC
      clear hv1 HF HK kA kB hBf g10
      go_wp2_with fail
      refine leaves_cons (f := 104) (args := #[.pointer (some ⟨w.heap.size, 0, none⟩), .pointer (some ⟨w.heap.size + 1, 0, none⟩)]) (by simp) (by simp [go_sem]) ?_
      refine (wcatchT_panicking (w.heap.size) (w.heap.size + 1) 0 0 0 15 (tok L pe0 j).ln (tok L pe0 j).co [] _ cA cB cB2 fA fB fB2 (by omega) hlA hlB).mono ?_
      rintro e u' w'' ⟨rfl, rfl, hw13⟩
      have hb13 : Below w.heap.size w w'' := by rw [hw13]; exact HBF.out _ _ _ _
      have k13 := HCA.out (.cells #[.int .i64 15, .int .i64 (tok L pe0 j).ln, .int .i64 (tok L pe0 j).co] 120)
      rw [← hw13] at k13
      have d0 : w''.cell? ⟨w.heap.size, 0, none⟩ = some (.int .i64 15) := (block_cells k13.1).1 0
      have d1 : w''.cell? ⟨w.heap.size + 1, 0, none⟩ = some (.int .i64 (tok L pe0 j).ln) := (block_cells k13.2).1 0
      have d2 : w''.cell? ⟨w.heap.size + 1, 1, none⟩ = some (.int .i64 (tok L pe0 j).co) := (block_cells k13.2).1 1
      clear hw13 k13 HCA HBF
      simp [Leaves, settle, results, Tryz.results60, go_sem, d0, d1, d2]
      exact ⟨hb13, by rw [HX.out]; rfl⟩
    rw [hv1] at hR
    obtain ⟨rv, n10, rfl, hO, P10, g10⟩ := hR
    have hjl := P10.at'
    by_cases hj : j < L.length
    · have hfn := finish_no P10 hj
      have HX : Aside (typeF bs = .error (15, pl (tok L pe0 j))) := by show _ = _; rw [HF.out, hv1]; show (if j < L.length then _ else _) = _; rw [if_pos hj]
      clear hv1 HF hO
      go_wp2_with fail
      refine hfn.mono ?_
      rintro e11 w11 ⟨rfl, g11⟩
      obtain ⟨kA, kB, hBf, hlB⟩ := HK.out w11 (grownBy_trans g10 g11)
      have cA : w11.cell? ⟨w.heap.size, 0, none⟩ = some (.int .i64 0) := (block_cells kA).1 0
      have cB : w11.cell? ⟨w.heap.size + 1, 0, none⟩ = some (.int .i64 0) := (block_cells kB).1 0
      have cB2 : w11.cell? ⟨w.heap.size + 1, 1, none⟩ = some (.int .i64 0) := (block_cells kB).1 1
      have fA := (block_cells kA).2 0
      have fB := (block_cells kB).2 0
      have fB2 := (block_cells kB).2 1
      have hlA : w.heap.size < w11.heap.size := by omega
      have HBF : Aside (∀ a b c o, Below w.heap.size w ((((w11.setCell ⟨w.heap.size, 0, none⟩ a).setCell ⟨w.heap.size + 1, 0, none⟩ b).setCell ⟨w.heap.size + 1, 1, none⟩ c).alloc o).drew) := fun a b c o => below_drew ((((hBf.setCell (by simp) _).setCell (by simp) _).setCell (by simp) _).alloc (by simp [World.setCell]; omega) _)
      have hC := fun o => caught (er := 15) (ln := (tok L pe0 j).ln) (co := (tok L pe0 j).co) kA kB (by omega) o
      have HCA : Aside _ := hC
      clear hC
      clear HK kA kB hBf g10 g11 hfn P10
      go_wp2_with fail
      refine leaves_cons (f := 104) (args := #[.pointer (some ⟨w.heap.size, 0, none⟩), .pointer (some ⟨w.heap.size + 1, 0, none⟩)]) (by simp) (by simp [go_sem]) ?_
      refine (wcatchT_panicking (w.heap.size) (w.heap.size + 1) 0 0 0 15 (tok L pe0 j).ln (tok L pe0 j).co [] _ cA cB cB2 fA fB fB2 (by omega) hlA hlB).mono ?_
      rintro e u' w'' ⟨rfl, rfl, hw13⟩
      have hb13 : Below w.heap.size w w'' := by rw [hw13]; exact HBF.out _ _ _ _
      have k13 := HCA.out (.cells #[.int .i64 15, .int .i64 (tok L pe0 j).ln, .int .i64 (tok L pe0 j).co] 120)
      rw [← hw13] at k13
      have d0 : w''.cell? ⟨w.heap.size, 0, none⟩ = some (.int .i64 15) := (block_cells k13.1).1 0
      have d1 : w''.cell? ⟨w.heap.size + 1, 0, none⟩ = some (.int .i64 (tok L pe0 j).ln) := (block_cells k13.2).1 0
      have d2 : w''.cell? ⟨w.heap.size + 1, 1, none⟩ = some (.int .i64 (tok L pe0 j).co) := (block_cells k13.2).1 1
      clear hw13 k13 HCA HBF
      simp [Leaves, settle, results, Tryz.results60, go_sem, d0, d1, d2]
      exact ⟨hb13, by rw [HX.out]; rfl⟩
    obtain rfl : j = L.length := by omega
    have hfn := finish_yes P10
    have HX0 : Aside (typeF bs = match firstL (effE lm0 lg) with
      | some (c, p) => .error (c, p)
      | none => .ok a) := by show _ = _; rw [HF.out, hv1]; show (if L.length < L.length then _ else _) = _; rw [if_neg (by omega)]; rcases firstL (effE lm0 lg) with _ | ⟨c, p⟩ <;> rfl
    clear hv1 HF
    go_wp2_with fail
    refine hfn.mono ?_
    rintro e11 w11 ⟨rfl, n11, rfl⟩
    have htl := tell_any (P10.drewN n11)
    have hO11 : OwnT w9.heap.size (w10.drewN n11) rv a := hO.low (pb := pb) (grownBy_drewN (grownBy_refl w10 _) n11) (by omega)
    have g11 : w9.grownBy (w10.drewN n11) (some pb) := grownBy_drewN g10 n11
    clear hfn hO P10 g10
    rcases hf1 : firstL (effE lm0 lg) with _ | ⟨c, p⟩
    · rw [hf1] at htl HX0
      go_wp2_with fail
      refine htl.mono ?_
      rintro e12 w12 ⟨g12, rfl⟩
      have hO12 := hO11.low g12 (by omega)
      obtain ⟨kA, kB, hBf, hlB⟩ := HK.out w12 (grownBy_trans g11 g12)
      have cA : w12.cell? ⟨w.heap.size, 0, none⟩ = some (.int .i64 0) := (block_cells kA).1 0
      have cB : w12.cell? ⟨w.heap.size + 1, 0, none⟩ = some (.int .i64 0) := (block_cells kB).1 0
      have cB2 : w12.cell? ⟨w.heap.size + 1, 1, none⟩ = some (.int .i64 0) := (block_cells kB).1 1
      have fA := (block_cells kA).2
      have fB := (block_cells kB).2
      have HBF : Aside (∀ a b c, Below w.heap.size w (((w12.setCell ⟨w.heap.size, 0, none⟩ a).setCell ⟨w.heap.size + 1, 0, none⟩ b).setCell ⟨w.heap.size + 1, 1, none⟩ c)) := fun a b c => ((hBf.setCell (by simp) _).setCell (by simp) _).setCell (by simp) _
      have HOF : Aside (∀ x b c, OwnT w.heap.size (((w12.setCell ⟨w.heap.size, 0, none⟩ x).setCell ⟨w.heap.size + 1, 0, none⟩ b).setCell ⟨w.heap.size + 1, 1, none⟩ c) rv a) := fun x b c => ((hO12.low (grownBy_set (grownBy_refl w12 (some (w.heap.size))) _) (by omega)).low (grownBy_set (grownBy_set (grownBy_refl _ (some (w.heap.size + 1))) _) _) (by omega)).down (by omega)
      clear HK kA kB hBf g11 g12 htl hO11 hO12
      go_wp2_with fail
      refine leaves_cons (f := 104) (args := #[.pointer (some ⟨w.heap.size, 0, none⟩), .pointer (some ⟨w.heap.size + 1, 0, none⟩)]) (by simp) (by simp [go_sem]) ?_
      refine (wcatchT_idle ⟨w.heap.size, 0, none⟩ ⟨w.heap.size + 1, 0, none⟩ _).mono ?_
      rintro e u' w'' ⟨rfl, rfl, rfl⟩
      simp [Leaves, settle, results, Tryz.results60, go_sem, cA, cB, cB2]
      exact ⟨HBF.out _ _ _, by rw [HX0.out]; exact ⟨_, rfl, HOF.out _ _ _⟩⟩
    · obtain ⟨pa, pc⟩ := p
      rw [hf1] at htl HX0
      go_wp2_with fail
      refine htl.mono ?_
      rintro e12 w12 ⟨g12, rfl⟩
      obtain ⟨kA, kB, hBf, hlB⟩ := HK.out w12 (grownBy_trans g11 g12)
      have cA : w12.cell? ⟨w.heap.size, 0, none⟩ = some (.int .i64 0) := (block_cells kA).1 0
      have cB : w12.cell? ⟨w.heap.size + 1, 0, none⟩ = some (.int .i64 0) := (block_cells kB).1 0
      have cB2 : w12.cell? ⟨w.heap.size + 1, 1, none⟩ = some (.int .i64 0) := (block_cells kB).1 1
      have fA := (block_cells kA).2 0
      have fB := (block_cells kB).2 0
      have fB2 := (block_cells kB).2 1
      have hlA : w.heap.size < w12.heap.size := by omega
      have HBF : Aside (∀ a b c o, Below w.heap.size w ((((w12.setCell ⟨w.heap.size, 0, none⟩ a).setCell ⟨w.heap.size + 1, 0, none⟩ b).setCell ⟨w.heap.size + 1, 1, none⟩ c).alloc o).drew) := fun a b c o => below_drew ((((hBf.setCell (by simp) _).setCell (by simp) _).setCell (by simp) _).alloc (by simp [World.setCell]; omega) _)
      have hC := fun o => caught (er := c) (ln := pa) (co := pc) kA kB (by omega) o
      have HCA : Aside _ := hC
      clear hC
      clear HK kA kB hBf g11 g12 htl hO11
      go_wp2_with fail
      refine leaves_cons (f := 104) (args := #[.pointer (some ⟨w.heap.size, 0, none⟩), .pointer (some ⟨w.heap.size + 1, 0, none⟩)]) (by simp) (by simp [go_sem]) ?_
      refine (wcatchT_panicking (w.heap.size) (w.heap.size + 1) 0 0 0 c pa pc [] _ cA cB cB2 fA fB fB2 (by omega) hlA hlB).mono ?_
      rintro e u' w'' ⟨rfl, rfl, hw13⟩
      have hb13 : Below w.heap.size w w'' := by rw [hw13]; exact HBF.out _ _ _ _
      have k13 := HCA.out (.cells #[.int .i64 c, .int .i64 pa, .int .i64 pc] 120)
      rw [← hw13] at k13
      have d0 : w''.cell? ⟨w.heap.size, 0, none⟩ = some (.int .i64 c) := (block_cells k13.1).1 0
      have d1 : w''.cell? ⟨w.heap.size + 1, 0, none⟩ = some (.int .i64 pa) := (block_cells k13.2).1 0
      have d2 : w''.cell? ⟨w.heap.size + 1, 1, none⟩ = some (.int .i64 pc) := (block_cells k13.2).1 1
      clear hw13 k13 HCA HBF
      simp [Leaves, settle, results, Tryz.results60, go_sem, d0, d1, d2]
      exact ⟨hb13, by rw [HX0.out]⟩
end Go.Proofs.YtohjfikjbeafiaaGreatDoor
