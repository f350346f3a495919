/- A def and what stands ahead of it: the layout of modules, plain; the program's def. -/
import Derived.Test.YtpikfdkgblghhaaGreatDoorUba
import Derived.Test.YtpikfdkgblghhaaGreatDoorUax
import Derived.Test.YtpikfdkgblghhaaGreatDoorUbk
import Derived.Test.YtpikfdkgblghhaaGreatDoorUbc
namespace Go.Proofs.YtpikfdkgblghhaaGreatDoor
open Go.RowKit Pn
set_option maxRecDepth 100000
set_option linter.unusedSimpArgs false
set_option linter.unusedVariables false
namespace Pn
/-- The text of a list of nodes that is a tree. -/
noncomputable def trT (l : List Tr.Nd) : List UInt8 := @dite (List UInt8) (∃ t, Tr.wf t ∧ l = Tr.flat t) (Classical.propDecidable _) (fun h => pr Lib.itoa h.choose) (fun _ => [])
theorem trT_flat {t : Tr.T} (hw : Tr.wf t) : trT (Tr.flat t) = pr Lib.itoa t := by
  have h : ∃ u, Tr.wf u ∧ Tr.flat t = Tr.flat u := ⟨t, hw, rfl⟩
  unfold trT
  rw [dif_pos h]
  obtain ⟨h1, h2⟩ := h.choose_spec
  have := (Tr.flat_inj t h.choose [] [] hw h1 (by rw [List.append_nil, List.append_nil]; exact h2)).1
  rw [← this]
noncomputable def imT (x : Im) : List UInt8 := [32, 32, 105, 109, 112, 111, 114, 116, 32] ++ x.frm.data.toList ++ [46] ++ x.name.data.toList ++ note x.t.data.toList ++ [59, 10]
noncomputable def dfT (x : Df) : List UInt8 := [32, 32] ++ (if x.exp then [101, 120, 112, 111, 114, 116, 32] else []) ++ [108, 101, 116, 32] ++ x.name.data.toList ++ note x.t.data.toList ++ [32, 61, 32] ++ trT x.tree ++ [59, 10]
noncomputable def imsT (l : List Im) : List UInt8 := (l.map imT).flatten
noncomputable def dfsT (l : List Df) : List UInt8 := (l.map dfT).flatten
noncomputable def mdT (m : Md) : List UInt8 := [109, 111, 100, 117, 108, 101, 32] ++ m.name.data.toList ++ [32, 123, 10] ++ imsT m.imps ++ dfsT m.defs ++ [125, 10]
noncomputable def mdsT (l : List Md) : List UInt8 := (l.map mdT).flatten
theorem imsT_cons (x : Im) (r : List Im) : imsT (x :: r) = imT x ++ imsT r := by simp [imsT]
theorem dfsT_cons (x : Df) (r : List Df) : dfsT (x :: r) = dfT x ++ dfsT r := by simp [dfsT]
theorem mdsT_cons (x : Md) (r : List Md) : mdsT (x :: r) = mdT x ++ mdsT r := by simp [mdsT]
/-- A def that may be. -/
structure DfOk (x : Df) : Prop where
  b : dfB x = true
  c : (chkN x.tree).1 = 0
  h : ∀ y ∈ x.tree, Held y
theorem dfB_parts {x : Df} (h : dfB x = true) : nameB x.name.data.toList = true ∧ noteB x.t.data.toList = true := by
  unfold dfB at h
  simpa using h
theorem DfOk.tree {x : Df} (h : DfOk x) : ∃ t, Tr.wf t ∧ x.tree = Tr.flat t ∧ GoodT t ∧ (Tr.flat t).length ≤ 4096 := by
  obtain ⟨t, h1, h2, h3, h4, _⟩ := tree_of h.c
  exact ⟨t, h1, h2, good_of h1 h2 h3 h.h, h2 ▸ h4⟩
theorem trT_len {x : Df} (h : DfOk x) : (trT x.tree).length ≤ 2300 * 4096 := by
  obtain ⟨t, h1, h2, h3, h4⟩ := h.tree
  have := pr_len Lib.itoa t (fun y hy => nice_len (h3.2 y hy))
  rw [h2, trT_flat h1]
  omega
theorem dfT_len {x : Df} (h : DfOk x) : (dfT x).length ≤ 9500000 := by
  obtain ⟨h1, h2⟩ := dfB_parts h.b
  have := name_len h1
  have := note_len h2
  have := trT_len h
  have : (if x.exp then [101, 120, 112, 111, 114, 116, 32] else ([] : List UInt8)).length ≤ 7 := by split <;> simp
  unfold dfT
  simp only [List.length_append, List.length_cons, List.length_nil]
  omega
def dfagg (x : Df) (v : Value) : Value := .agg #[.string x.name, .bool x.exp, .string x.t, v, .int .i64 x.ln, .int .i64 x.co]
end Pn

theorem tree_st2 (pb : Nat) (L : List UInt8) (c v : Value) (t : Tr.T) (w0 w : World) (h : St w0 w pb L c []) (hl : IsNodes w v (Tr.flat t)) (hv : Low v pb) (hg : GoodT t) (hlen : L.length + 2400 * (Tr.flat t).length ≤ 10000000000) :
    Calls Tryz.prog 26 #[.pointer (some ⟨pb, 0, none⟩), v] w (Done w0 pb (L ++ pr Lib.itoa t) []) := by
  obtain ⟨va, vc, rfl⟩ := hl.form
  have h1 : St w0 (w.setCell ⟨pb, 2, none⟩ _) pb L _ (Tr.flat t ++ []) := ⟨h.pen.coming (.slice va (Tr.flat t).length vc), by rw [List.append_nil]; exact nodes_low hl hv (Wrote.set _ _ _ _).1, hv, fun W hB => h.tab W ((Wrote.set _ _ _ _).1.trans hB), h.wr.trans (Wrote.set _ _ _ _)⟩
  have hk := kidOk_any _ t (Nat.le_refl _) hg 0 pb L _ [] w0 _ h1 (by decide) (by decide) hlen
  have h0 : txt 0 t = pr Lib.itoa t := by
    show br (decide (rk (root t).kind < 0)) _ = _
    rw [show decide (rk (root t).kind < 0) = false by have := rk_bd (root t).kind; simp; omega]
    rfl
  rw [h0] at hk
  obtain ⟨c2, f2⟩ := h.pen.cell2
  have f22 := f2 2
  have hlt := h.pen.lt
  generalize pr Lib.itoa t = P at *
  clear h1 h0 hlen hg hl h
  go_enter Tryz.func26, Tryz.ntmps26
  go_wp2_with fail
  refine hk.mono ?_
  rintro e w1 ⟨rfl, c1, hS⟩
  go_wp2_with fail
  go_end0
  exact ⟨rfl, c1, hS⟩

set_option maxHeartbeats 4000000 in
theorem def_st (pb : Nat) (L : List UInt8) (c tv : Value) (x : Df) (w0 w : World) (h : St w0 w pb L c []) (hx : DfOk x) (hl : IsNodes w tv x.tree) (hv : Low tv pb) (hlen : L.length + 10000000 ≤ 10000000000) :
    Calls Tryz.prog 69 #[.pointer (some ⟨pb, 0, none⟩), dfagg x tv] w (Done w0 pb (L ++ dfT x) []) := by
  obtain ⟨hn, hnt⟩ := dfB_parts hx.b
  have hnn := name_len hn
  have hnl := note_len hnt
  obtain ⟨t, ht1, ht2, ht3, ht4⟩ := hx.tree
  have hpl := pr_len Lib.itoa t (fun y hy => nice_len (ht3.2 y hy))
  have htx : trT x.tree = pr Lib.itoa t := by rw [ht2, trT_flat ht1]
  rw [ht2] at hl
  have h0 := h.now
  have hlt := h.pen.lt
  have h1 := h0.alloc (.cells #[.string x.name, .bool x.exp, .string x.t, tv, .int .i64 x.ln, .int .i64 x.co] 54)
  have hsz0 : (w.alloc (.cells #[.string x.name, .bool x.exp, .string x.t, tv, .int .i64 x.ln, .int .i64 x.co] 54)).heap.size = w.heap.size + 1 := by simp
  have hbk := heap_alloc_new w (.cells #[.string x.name, .bool x.exp, .string x.t, tv, .int .i64 x.ln, .int .i64 x.co] 54)
  obtain ⟨w1, hw1⟩ : ∃ w1, w1 = w.alloc (.cells #[.string x.name, .bool x.exp, .string x.t, tv, .int .i64 x.ln, .int .i64 x.co] 54) := ⟨_, rfl⟩
  have hB1 : Below w.heap.size w w1 := by rw [hw1]; exact (Below.refl _ _).alloc (Nat.le_refl _) _
  rw [← hw1] at h1 hsz0 hbk
  -- in every world that the pen's writing leads to, the def's own block stands
  have hst : ∀ W, Wrote w1 W pb → W.cell? ⟨w.heap.size, 0, none⟩ = some (.string x.name) ∧ W.cell? ⟨w.heap.size, 1, none⟩ = some (.bool x.exp) ∧ W.cell? ⟨w.heap.size, 2, none⟩ = some (.string x.t) ∧ W.cell? ⟨w.heap.size, 3, none⟩ = some tv := fun W hW => by
    have hb := (block_cells (hW.at hbk (by omega) (by decide))).1
    exact ⟨hb 0, hb 1, hb 2, hb 3⟩
  have hlW : ∀ W, Wrote w1 W pb → IsNodes W tv (Tr.flat t) := fun W hW => nodes_low (hl.below hB1) hv hW.1
  have hput : ∀ M cc W ps, St w1 W pb M cc [] → ps.length ≤ 1000 → M.length + ps.flatten.length ≤ 100000000000 → Calls Tryz.prog 67 #[.pointer (some ⟨pb, 0, none⟩), .slice (some ⟨W.heap.size, 0, none⟩) ps.length ps.length] (W.alloc (.cells (tcells ps).toArray 9)) fun e w' => e = .returned (.tuple #[]) ∧ St w1 w' pb (M ++ ps.flatten) cc [] :=
    fun M cc W ps hW h1 h2 => put_st pb M cc [] ps w1 W hW h1 h2
  have hp1 := hput L c w1 [[32, 32]] h1.now (by simp) (by simp; omega)
  have hp1' : Calls Tryz.prog 67 #[.pointer (some ⟨pb, 0, none⟩), .slice (some ⟨w1.heap.size, 0, none⟩) 1 1] (w1.alloc (.cells #[.string (S [32, 32])] 9)) fun e w' => e = .returned (.tuple #[]) ∧ St w1 w' pb (L ++ [[32, 32]].flatten) c [] := hp1
  have hM1 : (L ++ [[32, 32]].flatten).length ≤ L.length + 2 := by simp
  have HF1 : Aside (L ++ dfT x = L ++ [[32, 32]].flatten ++ ((if x.exp then [101, 120, 112, 111, 114, 116, 32] else []) ++ [[108, 101, 116, 32], x.name.data.toList, note x.t.data.toList, [32, 61, 32]].flatten ++ pr Lib.itoa t ++ [[59, 10]].flatten)) := by
    show _ = _
    unfold dfT
    rw [htx]
    simp
  generalize L ++ dfT x = FF at *
  generalize L ++ [[32, 32]].flatten = M1 at *
  have hmid : ∀ M2 W cc, St w1 W pb M2 cc [] → M2.length ≤ M1.length + 7 → Calls Tryz.prog 67 #[.pointer (some ⟨pb, 0, none⟩), .slice (some ⟨W.heap.size, 0, none⟩) 4 4] (W.alloc (.cells #[.string (S [108, 101, 116, 32]), .string x.name, .string (S (note x.t.data.toList)), .string (S [32, 61, 32])] 9)) fun e w' => e = .returned (.tuple #[]) ∧ St w1 w' pb (M2 ++ [[108, 101, 116, 32], x.name.data.toList, note x.t.data.toList, [32, 61, 32]].flatten) cc [] := fun M2 W cc hW hM => by
    exact hput M2 cc W [[108, 101, 116, 32], x.name.data.toList, note x.t.data.toList, [32, 61, 32]] hW (by simp) (by
      have : [[108, 101, 116, 32], x.name.data.toList, note x.t.data.toList, [32, 61, 32]].flatten.length ≤ 700 := by simp only [List.flatten_cons, List.flatten_nil, List.length_append, List.length_cons, List.length_nil]; omega
      omega)
  have hexp : ∀ W cc, St w1 W pb M1 cc [] → Calls Tryz.prog 67 #[.pointer (some ⟨pb, 0, none⟩), .slice (some ⟨W.heap.size, 0, none⟩) 1 1] (W.alloc (.cells #[.string (S [101, 120, 112, 111, 114, 116, 32])] 9)) fun e w' => e = .returned (.tuple #[]) ∧ St w1 w' pb (M1 ++ [[101, 120, 112, 111, 114, 116, 32]].flatten) cc [] := fun W cc hW => hput M1 cc W [[101, 120, 112, 111, 114, 116, 32]] hW (by simp) (by simp; omega)
  have hend : ∀ M4 W cc, St w1 W pb M4 cc [] → M4.length ≤ M1.length + 9500000 → Calls Tryz.prog 67 #[.pointer (some ⟨pb, 0, none⟩), .slice (some ⟨W.heap.size, 0, none⟩) 1 1] (W.alloc (.cells #[.string (S [59, 10])] 9)) fun e w' => e = .returned (.tuple #[]) ∧ St w1 w' pb (M4 ++ [[59, 10]].flatten) cc [] := fun M4 W cc hW hM => hput M4 cc W [[59, 10]] hW (by simp) (by simp; omega)
  have htree : ∀ M3 W cc, St w1 W pb M3 cc [] → M3.length ≤ M1.length + 1000 → Calls Tryz.prog 26 #[.pointer (some ⟨pb, 0, none⟩), tv] W (Done w1 pb (M3 ++ pr Lib.itoa t) []) := fun M3 W cc hW hM => tree_st2 pb M3 cc tv t w1 W hW (hlW W hW.wr) hv ht3 (by omega)
  have htt := typed_any x.t hnt
  have hfin : Aside (∀ w', Wrote w1 w' pb → Wrote w0 w' pb) := fun w' hW => (h.wr.trans (Wrote.grown (grown_below hB1) (Nat.le_of_lt hlt))).trans hW
  have hnl2 : ∀ M2 : List UInt8, M2.length ≤ M1.length + 7 → (M2 ++ [[108, 101, 116, 32], x.name.data.toList, note x.t.data.toList, [32, 61, 32]].flatten).length ≤ M1.length + 1000 := fun M2 hM => by
    simp only [List.flatten_cons, List.flatten_nil, List.length_append, List.length_cons, List.length_nil]; omega
  have hpl2 : ∀ M3 : List UInt8, M3.length ≤ M1.length + 1000 → (M3 ++ pr Lib.itoa t).length ≤ M1.length + 9500000 := fun M3 hM => by
    rw [List.length_append]; omega
  generalize hMI : [[108, 101, 116, 32], x.name.data.toList, note x.t.data.toList, [32, 61, 32]].flatten = MI at *
  generalize S (note x.t.data.toList) = nt at *
  generalize pr Lib.itoa t = P at *
  obtain ⟨nm, ex, ty, tr, ln, co⟩ := x
  simp only at hst hmid htt HF1
  simp only [dfagg]
  simp only at hw1
  clear h h0 hx hl hnn hnl hn hnt ht1 ht2 ht3 ht4 hpl htx hlW hput hp1 hbk hMI hlen hM1
  have hst4 : ∀ W, Wrote w1 W pb → W.cell? ⟨w.heap.size, 0, none⟩ = some (.string nm) ∧ W.cell? ⟨w.heap.size, 2, none⟩ = some (.string ty) := fun W hW => ⟨(hst W hW).1, (hst W hW).2.2.1⟩
  have HST : Aside (∀ W, Wrote w1 W pb → W.cell? ⟨w.heap.size, 3, none⟩ = some tv) := fun W hW => (hst W hW).2.2.2
  have HEX : Aside (∀ W, Wrote w1 W pb → W.cell? ⟨w.heap.size, 1, none⟩ = some (.bool ex)) := fun W hW => (hst W hW).2.1
  clear hst
  have HS4 : Aside (∀ W, Wrote w1 W pb → W.cell? ⟨w.heap.size, 0, none⟩ = some (.string nm) ∧ W.cell? ⟨w.heap.size, 2, none⟩ = some (.string ty)) := hst4
  clear hst4
  have hex1 := HEX.out w1 (Wrote.refl _ _)
  have hq1 := hp1'
  rw [hsz0] at hq1
  rw [hw1] at hq1
  clear hp1'
  cases ex with
  | true =>
    have HF2 : Aside (FF = M1 ++ [[101, 120, 112, 111, 114, 116, 32]].flatten ++ MI ++ P ++ [[59, 10]].flatten) := by show _ = _; rw [HF1.out]; simp
    have hM2 : (M1 ++ [[101, 120, 112, 111, 114, 116, 32]].flatten).length ≤ M1.length + 7 := by simp
    generalize M1 ++ [[101, 120, 112, 111, 114, 116, 32]].flatten = M2 at *
    have hM3 := hnl2 _ hM2
    have hM4 := hpl2 _ hM3
    clear HF1 hnl2 hpl2
    go_enter Tryz.func69, Tryz.ntmps69
    go_wp2_with fail
    refine hq1.mono ?_
    rintro e w2 ⟨rfl, hS2⟩
    rw [← hw1] at hS2
    have hx2 := HEX.out w2 hS2.wr
    go_wp2_with fail
    refine (hexp w2 _ hS2).mono ?_
    rintro e w3 ⟨rfl, hS3⟩
    go_wp2_with fail
    have HS3 : Aside (St w1 w3 pb M2 c []) := hS3
    have hcl : ∀ W, Below w3.heap.size w3 W → W.cell? ⟨w.heap.size, 0, none⟩ = some (.string nm) ∧ W.cell? ⟨w.heap.size, 2, none⟩ = some (.string ty) := fun W hW => HS4.out W (HS3.out.wr.trans (Wrote.grown (grown_below hW) (Nat.le_of_lt HS3.out.pen.lt)))
    clear hS3 hx2 hS2
    refine V.wp_region_W (fun W => Below w3.heap.size w3 W) 7 (by kernel_rfl) ?_
    have hS0 : Below w3.heap.size w3 w3.drew := (Below.refl _ _).drew
    generalize w3.drew = wd at *
    have hne9 : Nonempty (Cls (fun W => Below w3.heap.size w3 W)) := ⟨⟨w3, Below.refl _ _⟩⟩
    have z3 : ∀ z : Cls (fun W => Below w3.heap.size w3 W), z.w.cell? ⟨w.heap.size, 0, none⟩ = some (.string nm) := fun z => (hcl z.w z.h).1
    have z4 : ∀ z : Cls (fun W => Below w3.heap.size w3 W), z.w.cell? ⟨w.heap.size, 2, none⟩ = some (.string ty) := fun z => (hcl z.w z.h).2
    clear hcl
    have HS0 : Aside (Below w3.heap.size w3 wd) := hS0
    refine V.wpAnyW.quiet (by kernel_rfl) (by kernel_rfl) (fun _ _ _ _ _ h => h) hS0 [0, 1, 2, 3, 4] (by rfl) 3 _ _ (V.head0 7) (by kernel_rfl) ?_
    clear hS0
    simp only [V.pickL, List.filterMap_cons, List.filterMap_nil, List.getElem?_toArray, List.getElem?_cons_zero, List.getElem?_cons_succ]
    repeat (show wpQuiet _ _ _ _ (_ :: _) _; go_big_quiet_step (fail))
    refine wpQuiet_nil ?_
    clear z3 z4 hne9
    refine V.wpAnyW.event 5 (by decide) (by kernel_rfl) rfl ?_
    go_wp2_with fail
    refine (htt _).mono ?_
    rintro e w4 ⟨rfl, hB4⟩
    go_wp2_with fail
    have HB4 : Aside (Below w3.heap.size w3 w4) := HS0.out.trans (hB4.mono HS0.out.size)
    refine ⟨fun W => Below w3.heap.size w3 W, fun _ h => h, HB4.out, ?_⟩
    clear hB4
    refine V.wpAnyW.event 6 (by decide) (by kernel_rfl) rfl ?_
    go_wp2_with fail
    refine ⟨fun W => Below w3.heap.size w3 W, fun _ h => h, HB4.out.alloc HB4.out.size _, ?_⟩
    refine V.wpAnyW.last (by kernel_rfl) rfl (by kernel_rfl) ?_
    have hq := hmid _ w4 _ (HS3.out.below HB4.out) hM2
    go_wp2_with fail
    refine hq.mono ?_
    rintro e w5 ⟨rfl, hS5⟩
    have ht5 := HST.out w5 hS5.wr
    have hq5 := htree _ w5 _ hS5 hM3
    clear hq
    go_wp2_with fail
    refine NoPanic.normal ?_
    refine NoPanic.normal ?_
    go_wp2_with fail
    refine hq5.mono ?_
    rintro e w6 ⟨rfl, c6, hS6⟩
    have hq6 := hend _ w6 _ hS6 hM4
    clear ht5 hq5 hS5
    go_wp2_with fail
    refine hq6.mono ?_
    rintro e w7 ⟨rfl, hS7⟩
    go_wp2_with fail
    go_end0
    exact ⟨rfl, c6, HF2.out ▸ ⟨hS7.pen, hS7.nodes, hS7.low, hS7.tab, hfin.out _ hS7.wr⟩⟩
  | false =>
    have HF2 : Aside (FF = M1 ++ MI ++ P ++ [[59, 10]].flatten) := by show _ = _; rw [HF1.out]; simp
    have hM2 : M1.length ≤ M1.length + 7 := by omega
    clear hexp
    have hM3 := hnl2 _ hM2
    have hM4 := hpl2 _ hM3
    clear HF1 hnl2 hpl2
    go_enter Tryz.func69, Tryz.ntmps69
    go_wp2_with fail
    refine hq1.mono ?_
    rintro e w2 ⟨rfl, hS2⟩
    rw [← hw1] at hS2
    have hx2 := HEX.out w2 hS2.wr
    go_wp2_with fail
    have HS3 : Aside (St w1 w2 pb M1 c []) := hS2
    have hcl : ∀ W, Below w2.heap.size w2 W → W.cell? ⟨w.heap.size, 0, none⟩ = some (.string nm) ∧ W.cell? ⟨w.heap.size, 2, none⟩ = some (.string ty) := fun W hW => HS4.out W (HS3.out.wr.trans (Wrote.grown (grown_below hW) (Nat.le_of_lt HS3.out.pen.lt)))
    clear hS2 hx2
    refine V.wp_region_W (fun W => Below w2.heap.size w2 W) 7 (by kernel_rfl) ?_
    have hS0 : Below w2.heap.size w2 w2.drew := (Below.refl _ _).drew
    generalize w2.drew = wd at *
    have hne9 : Nonempty (Cls (fun W => Below w2.heap.size w2 W)) := ⟨⟨w2, Below.refl _ _⟩⟩
    have z3 : ∀ z : Cls (fun W => Below w2.heap.size w2 W), z.w.cell? ⟨w.heap.size, 0, none⟩ = some (.string nm) := fun z => (hcl z.w z.h).1
    have z4 : ∀ z : Cls (fun W => Below w2.heap.size w2 W), z.w.cell? ⟨w.heap.size, 2, none⟩ = some (.string ty) := fun z => (hcl z.w z.h).2
    clear hcl
    have HS0 : Aside (Below w2.heap.size w2 wd) := hS0
    refine V.wpAnyW.quiet (by kernel_rfl) (by kernel_rfl) (fun _ _ _ _ _ h => h) hS0 [0, 1, 2, 3, 4] (by rfl) 3 _ _ (V.head0 7) (by kernel_rfl) ?_
    clear hS0
    simp only [V.pickL, List.filterMap_cons, List.filterMap_nil, List.getElem?_toArray, List.getElem?_cons_zero, List.getElem?_cons_succ]
    repeat (show wpQuiet _ _ _ _ (_ :: _) _; go_big_quiet_step (fail))
    refine wpQuiet_nil ?_
    clear z3 z4 hne9
    refine V.wpAnyW.event 5 (by decide) (by kernel_rfl) rfl ?_
    go_wp2_with fail
    refine (htt _).mono ?_
    rintro e w4 ⟨rfl, hB4⟩
    go_wp2_with fail
    have HB4 : Aside (Below w2.heap.size w2 w4) := HS0.out.trans (hB4.mono HS0.out.size)
    refine ⟨fun W => Below w2.heap.size w2 W, fun _ h => h, HB4.out, ?_⟩
    clear hB4
    refine V.wpAnyW.event 6 (by decide) (by kernel_rfl) rfl ?_
    go_wp2_with fail
    refine ⟨fun W => Below w2.heap.size w2 W, fun _ h => h, HB4.out.alloc HB4.out.size _, ?_⟩
    refine V.wpAnyW.last (by kernel_rfl) rfl (by kernel_rfl) ?_
    have hq := hmid _ w4 _ (HS3.out.below HB4.out) hM2
    go_wp2_with fail
    refine hq.mono ?_
    rintro e w5 ⟨rfl, hS5⟩
    have ht5 := HST.out w5 hS5.wr
    have hq5 := htree _ w5 _ hS5 hM3
    clear hq
    go_wp2_with fail
    refine NoPanic.normal ?_
    refine NoPanic.normal ?_
    go_wp2_with fail
    refine hq5.mono ?_
    rintro e w6 ⟨rfl, c6, hS6⟩
    have hq6 := hend _ w6 _ hS6 hM4
    clear ht5 hq5 hS5
    go_wp2_with fail
    refine hq6.mono ?_
    rintro e w7 ⟨rfl, hS7⟩
    go_wp2_with fail
    go_end0
    exact ⟨rfl, c6, HF2.out ▸ ⟨hS7.pen, hS7.nodes, hS7.low, hS7.tab, hfin.out _ hS7.wr⟩⟩
end Go.Proofs.YtpikfdkgblghhaaGreatDoor
