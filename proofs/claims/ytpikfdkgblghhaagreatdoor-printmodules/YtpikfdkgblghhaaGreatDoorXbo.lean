/- A def and what stands ahead of it: the layout of modules, plain; the program's def. The program's module. The program's Modules, whole. The one closed call that every statement of layer 7 makes first: it answers true. -/
import Derived.Test.YtpikfdkgblghhaaGreatDoorXbc
import Derived.Test.YtpikfdkgblghhaaGreatDoorXav
import Derived.Test.YtpikfdkgblghhaaGreatDoorXbh
import Derived.Test.YtpikfdkgblghhaaGreatDoorXaz
import Derived.Test.YtpikfdkgblghhaaGreatDoorXba
import Derived.KernelRfl
namespace Go.Proofs.YtpikfdkgblghhaaGreatDoor
open Go.RowKit Pn
set_option maxRecDepth 100000
set_option linter.unusedSimpArgs false
set_option linter.unusedVariables false
namespace Pn
/-- The text of a list of nodes that is a tree. -/
noncomputable def trT (l : List Tr.Nd) : List UInt8 := @dite (List UInt8) (∃ t, Tr.wf t ∧ l = Tr.flat t) (Classical.propDecidable _) (fun h => pr Lib.itoa h.choose) (fun _ => [])
theorem trT_flat {t : Tr.T} (hw : Tr.wf t) : trT (Tr.flat t) = pr Lib.itoa t := by
  have h : ∃ u, Tr.wf u ∧ Tr.flat t = Tr.flat u := ⟨t, hw, rfl⟩
  unfold trT
  rw [dif_pos h]
  obtain ⟨h1, h2⟩ := h.choose_spec
  have := (Tr.flat_inj t h.choose [] [] hw h1 (by rw [List.append_nil, List.append_nil]; exact h2)).1
  rw [← this]
noncomputable def imT (x : Im) : List UInt8 := [32, 32, 105, 109, 112, 111, 114, 116, 32] ++ x.frm.data.toList ++ [46] ++ x.name.data.toList ++ note x.t.data.toList ++ [59, 10]
noncomputable def dfT (x : Df) : List UInt8 := [32, 32] ++ (if x.exp then [101, 120, 112, 111, 114, 116, 32] else []) ++ [108, 101, 116, 32] ++ x.name.data.toList ++ note x.t.data.toList ++ [32, 61, 32] ++ trT x.tree ++ [59, 10]
noncomputable def imsT (l : List Im) : List UInt8 := (l.map imT).flatten
noncomputable def dfsT (l : List Df) : List UInt8 := (l.map dfT).flatten
noncomputable def mdT (m : Md) : List UInt8 := [109, 111, 100, 117, 108, 101, 32] ++ m.name.data.toList ++ [32, 123, 10] ++ imsT m.imps ++ dfsT m.defs ++ [125, 10]
noncomputable def mdsT (l : List Md) : List UInt8 := (l.map mdT).flatten
theorem imsT_cons (x : Im) (r : List Im) : imsT (x :: r) = imT x ++ imsT r := by simp [imsT]
theorem dfsT_cons (x : Df) (r : List Df) : dfsT (x :: r) = dfT x ++ dfsT r := by simp [dfsT]
theorem mdsT_cons (x : Md) (r : List Md) : mdsT (x :: r) = mdT x ++ mdsT r := by simp [mdsT]
/-- A def that may be. -/
structure DfOk (x : Df) : Prop where
  b : dfB x = true
  c : (chkN x.tree).1 = 0
  h : ∀ y ∈ x.tree, Held y
theorem dfB_parts {x : Df} (h : dfB x = true) : nameB x.name.data.toList = true ∧ noteB x.t.data.toList = true := by
  unfold dfB at h
  simpa using h
theorem DfOk.tree {x : Df} (h : DfOk x) : ∃ t, Tr.wf t ∧ x.tree = Tr.flat t ∧ GoodT t ∧ (Tr.flat t).length ≤ 4096 := by
  obtain ⟨t, h1, h2, h3, h4, _⟩ := tree_of h.c
  exact ⟨t, h1, h2, good_of h1 h2 h3 h.h, h2 ▸ h4⟩
theorem trT_len {x : Df} (h : DfOk x) : (trT x.tree).length ≤ 2300 * 4096 := by
  obtain ⟨t, h1, h2, h3, h4⟩ := h.tree
  have := pr_len Lib.itoa t (fun y hy => nice_len (h3.2 y hy))
  rw [h2, trT_flat h1]
  omega
theorem dfT_len {x : Df} (h : DfOk x) : (dfT x).length ≤ 9500000 := by
  obtain ⟨h1, h2⟩ := dfB_parts h.b
  have := name_len h1
  have := note_len h2
  have := trT_len h
  have : (if x.exp then [101, 120, 112, 111, 114, 116, 32] else ([] : List UInt8)).length ≤ 7 := by split <;> simp
  unfold dfT
  simp only [List.length_append, List.length_cons, List.length_nil]
  omega
def dfagg (x : Df) (v : Value) : Value := .agg #[.string x.name, .bool x.exp, .string x.t, v, .int .i64 x.ln, .int .i64 x.co]
end Pn

theorem tree_st2 (pb : Nat) (L : List UInt8) (c v : Value) (t : Tr.T) (w0 w : World) (h : St w0 w pb L c []) (hl : IsNodes w v (Tr.flat t)) (hv : Low v pb) (hg : GoodT t) (hlen : L.length + 2400 * (Tr.flat t).length ≤ 10000000000) :
    Calls Tryz.prog 26 #[.pointer (some ⟨pb, 0, none⟩), v] w (Done w0 pb (L ++ pr Lib.itoa t) []) := by
  obtain ⟨va, vc, rfl⟩ := hl.form
  have h1 : St w0 (w.setCell ⟨pb, 2, none⟩ _) pb L _ (Tr.flat t ++ []) := ⟨h.pen.coming (.slice va (Tr.flat t).length vc), by rw [List.append_nil]; exact nodes_low hl hv (Wrote.set _ _ _ _).1, hv, fun W hB => h.tab W ((Wrote.set _ _ _ _).1.trans hB), h.wr.trans (Wrote.set _ _ _ _)⟩
  have hk := kidOk_any _ t (Nat.le_refl _) hg 0 pb L _ [] w0 _ h1 (by decide) (by decide) hlen
  have h0 : txt 0 t = pr Lib.itoa t := by
    show br (decide (rk (root t).kind < 0)) _ = _
    rw [show decide (rk (root t).kind < 0) = false by have := rk_bd (root t).kind; simp; omega]
    rfl
  rw [h0] at hk
  obtain ⟨c2, f2⟩ := h.pen.cell2
  have f22 := f2 2
  have hlt := h.pen.lt
  generalize pr Lib.itoa t = P at *
  clear h1 h0 hlen hg hl h
  go_enter Tryz.func26, Tryz.ntmps26
  go_wp2_with fail
  refine hk.mono ?_
  rintro e w1 ⟨rfl, c1, hS⟩
  go_wp2_with fail
  go_end0
  exact ⟨rfl, c1, hS⟩

set_option maxHeartbeats 4000000 in
theorem def_st (pb : Nat) (L : List UInt8) (c tv : Value) (x : Df) (w0 w : World) (h : St w0 w pb L c []) (hx : DfOk x) (hl : IsNodes w tv x.tree) (hv : Low tv pb) (hlen : L.length + 10000000 ≤ 10000000000) :
    Calls Tryz.prog 69 #[.pointer (some ⟨pb, 0, none⟩), dfagg x tv] w (Done w0 pb (L ++ dfT x) []) := by
  obtain ⟨hn, hnt⟩ := dfB_parts hx.b
  have hnn := name_len hn
  have hnl := note_len hnt
  obtain ⟨t, ht1, ht2, ht3, ht4⟩ := hx.tree
  have hpl := pr_len Lib.itoa t (fun y hy => nice_len (ht3.2 y hy))
  have htx : trT x.tree = pr Lib.itoa t := by rw [ht2, trT_flat ht1]
  rw [ht2] at hl
  have h0 := h.now
  have hlt := h.pen.lt
  have h1 := h0.alloc (.cells #[.string x.name, .bool x.exp, .string x.t, tv, .int .i64 x.ln, .int .i64 x.co] 54)
  have hsz0 : (w.alloc (.cells #[.string x.name, .bool x.exp, .string x.t, tv, .int .i64 x.ln, .int .i64 x.co] 54)).heap.size = w.heap.size + 1 := by simp
  have hbk := heap_alloc_new w (.cells #[.string x.name, .bool x.exp, .string x.t, tv, .int .i64 x.ln, .int .i64 x.co] 54)
  obtain ⟨w1, hw1⟩ : ∃ w1, w1 = w.alloc (.cells #[.string x.name, .bool x.exp, .string x.t, tv, .int .i64 x.ln, .int .i64 x.co] 54) := ⟨_, rfl⟩
  have hB1 : Below w.heap.size w w1 := by rw [hw1]; exact (Below.refl _ _).alloc (Nat.le_refl _) _
  rw [← hw1] at h1 hsz0 hbk
  -- in every world that the pen's writing leads to, the def's own block stands
  have hst : ∀ W, Wrote w1 W pb → W.cell? ⟨w.heap.size, 0, none⟩ = some (.string x.name) ∧ W.cell? ⟨w.heap.size, 1, none⟩ = some (.bool x.exp) ∧ W.cell? ⟨w.heap.size, 2, none⟩ = some (.string x.t) ∧ W.cell? ⟨w.heap.size, 3, none⟩ = some tv := fun W hW => by
    have hb := (block_cells (hW.at hbk (by omega) (by decide))).1
    exact ⟨hb 0, hb 1, hb 2, hb 3⟩
  have hlW : ∀ W, Wrote w1 W pb → IsNodes W tv (Tr.flat t) := fun W hW => nodes_low (hl.below hB1) hv hW.1
  have hput : ∀ M cc W ps, St w1 W pb M cc [] → ps.length ≤ 1000 → M.length + ps.flatten.length ≤ 100000000000 → Calls Tryz.prog 67 #[.pointer (some ⟨pb, 0, none⟩), .slice (some ⟨W.heap.size, 0, none⟩) ps.length ps.length] (W.alloc (.cells (tcells ps).toArray 9)) fun e w' => e = .returned (.tuple #[]) ∧ St w1 w' pb (M ++ ps.flatten) cc [] :=
    fun M cc W ps hW h1 h2 => put_st pb M cc [] ps w1 W hW h1 h2
  have hp1 := hput L c w1 [[32, 32]] h1.now (by simp) (by simp; omega)
  have hp1' : Calls Tryz.prog 67 #[.pointer (some ⟨pb, 0, none⟩), .slice (some ⟨w1.heap.size, 0, none⟩) 1 1] (w1.alloc (.cells #[.string (S [32, 32])] 9)) fun e w' => e = .returned (.tuple #[]) ∧ St w1 w' pb (L ++ [[32, 32]].flatten) c [] := hp1
  have hM1 : (L ++ [[32, 32]].flatten).length ≤ L.length + 2 := by simp
  have HF1 : Aside (L ++ dfT x = L ++ [[32, 32]].flatten ++ ((if x.exp then [101, 120, 112, 111, 114, 116, 32] else []) ++ [[108, 101, 116, 32], x.name.data.toList, note x.t.data.toList, [32, 61, 32]].flatten ++ pr Lib.itoa t ++ [[59, 10]].flatten)) := by
    show _ = _
    unfold dfT
    rw [htx]
    simp
  generalize L ++ dfT x = FF at *
  generalize L ++ [[32, 32]].flatten = M1 at *
  have hmid : ∀ M2 W cc, St w1 W pb M2 cc [] → M2.length ≤ M1.length + 7 → Calls Tryz.prog 67 #[.pointer (some ⟨pb, 0, none⟩), .slice (some ⟨W.heap.size, 0, none⟩) 4 4] (W.alloc (.cells #[.string (S [108, 101, 116, 32]), .string x.name, .string (S (note x.t.data.toList)), .string (S [32, 61, 32])] 9)) fun e w' => e = .returned (.tuple #[]) ∧ St w1 w' pb (M2 ++ [[108, 101, 116, 32], x.name.data.toList, note x.t.data.toList, [32, 61, 32]].flatten) cc [] := fun M2 W cc hW hM => by
    exact hput M2 cc W [[108, 101, 116, 32], x.name.data.toList, note x.t.data.toList, [32, 61, 32]] hW (by simp) (by
      have : [[108, 101, 116, 32], x.name.data.toList, note x.t.data.toList, [32, 61, 32]].flatten.length ≤ 700 := by simp only [List.flatten_cons, List.flatten_nil, List.length_append, List.length_cons, List.length_nil]; omega
      omega)
  have hexp : ∀ W cc, St w1 W pb M1 cc [] → Calls Tryz.prog 67 #[.pointer (some ⟨pb, 0, none⟩), .slice (some ⟨W.heap.size, 0, none⟩) 1 1] (W.alloc (.cells #[.string (S [101, 120, 112, 111, 114, 116, 32])] 9)) fun e w' => e = .returned (.tuple #[]) ∧ St w1 w' pb (M1 ++ [[101, 120, 112, 111, 114, 116, 32]].flatten) cc [] := fun W cc hW => hput M1 cc W [[101, 120, 112, 111, 114, 116, 32]] hW (by simp) (by simp; omega)
  have hend : ∀ M4 W cc, St w1 W pb M4 cc [] → M4.length ≤ M1.length + 9500000 → Calls Tryz.prog 67 #[.pointer (some ⟨pb, 0, none⟩), .slice (some ⟨W.heap.size, 0, none⟩) 1 1] (W.alloc (.cells #[.string (S [59, 10])] 9)) fun e w' => e = .returned (.tuple #[]) ∧ St w1 w' pb (M4 ++ [[59, 10]].flatten) cc [] := fun M4 W cc hW hM => hput M4 cc W [[59, 10]] hW (by simp) (by simp; omega)
  have htree : ∀ M3 W cc, St w1 W pb M3 cc [] → M3.length ≤ M1.length + 1000 → Calls Tryz.prog 26 #[.pointer (some ⟨pb, 0, none⟩), tv] W (Done w1 pb (M3 ++ pr Lib.itoa t) []) := fun M3 W cc hW hM => tree_st2 pb M3 cc tv t w1 W hW (hlW W hW.wr) hv ht3 (by omega)
  have htt := typed_any x.t hnt
  have hfin : Aside (∀ w', Wrote w1 w' pb → Wrote w0 w' pb) := fun w' hW => (h.wr.trans (Wrote.grown (grown_below hB1) (Nat.le_of_lt hlt))).trans hW
  have hnl2 : ∀ M2 : List UInt8, M2.length ≤ M1.length + 7 → (M2 ++ [[108, 101, 116, 32], x.name.data.toList, note x.t.data.toList, [32, 61, 32]].flatten).length ≤ M1.length + 1000 := fun M2 hM => by
    simp only [List.flatten_cons, List.flatten_nil, List.length_append, List.length_cons, List.length_nil]; omega
  have hpl2 : ∀ M3 : List UInt8, M3.length ≤ M1.length + 1000 → (M3 ++ pr Lib.itoa t).length ≤ M1.length + 9500000 := fun M3 hM => by
    rw [List.length_append]; omega
  generalize hMI : [[108, 101, 116, 32], x.name.data.toList, note x.t.data.toList, [32, 61, 32]].flatten = MI at *
  generalize S (note x.t.data.toList) = nt at *
  generalize pr Lib.itoa t = P at *
  obtain ⟨nm, ex, ty, tr, ln, co⟩ := x
  simp only at hst hmid htt HF1
  simp only [dfagg]
  simp only at hw1
  clear h h0 hx hl hnn hnl hn hnt ht1 ht2 ht3 ht4 hpl htx hlW hput hp1 hbk hMI hlen hM1
  have hst4 : ∀ W, Wrote w1 W pb → W.cell? ⟨w.heap.size, 0, none⟩ = some (.string nm) ∧ W.cell? ⟨w.heap.size, 2, none⟩ = some (.string ty) := fun W hW => ⟨(hst W hW).1, (hst W hW).2.2.1⟩
  have HST : Aside (∀ W, Wrote w1 W pb → W.cell? ⟨w.heap.size, 3, none⟩ = some tv) := fun W hW => (hst W hW).2.2.2
  have HEX : Aside (∀ W, Wrote w1 W pb → W.cell? ⟨w.heap.size, 1, none⟩ = some (.bool ex)) := fun W hW => (hst W hW).2.1
  clear hst
  have HS4 : Aside (∀ W, Wrote w1 W pb → W.cell? ⟨w.heap.size, 0, none⟩ = some (.string nm) ∧ W.cell? ⟨w.heap.size, 2, none⟩ = some (.string ty)) := hst4
  clear hst4
  have hex1 := HEX.out w1 (Wrote.refl _ _)
  have hq1 := hp1'
  rw [hsz0] at hq1
  rw [hw1] at hq1
  clear hp1'
  cases ex with
  | true =>
    have HF2 : Aside (FF = M1 ++ [[101, 120, 112, 111, 114, 116, 32]].flatten ++ MI ++ P ++ [[59, 10]].flatten) := by show _ = _; rw [HF1.out]; simp
    have hM2 : (M1 ++ [[101, 120, 112, 111, 114, 116, 32]].flatten).length ≤ M1.length + 7 := by simp
    generalize M1 ++ [[101, 120, 112, 111, 114, 116, 32]].flatten = M2 at *
    have hM3 := hnl2 _ hM2
    have hM4 := hpl2 _ hM3
    clear HF1 hnl2 hpl2
    go_enter Tryz.func69, Tryz.ntmps69
    go_wp2_with fail
    refine hq1.mono ?_
    rintro e w2 ⟨rfl, hS2⟩
    rw [← hw1] at hS2
    have hx2 := HEX.out w2 hS2.wr
    go_wp2_with fail
    refine (hexp w2 _ hS2).mono ?_
    rintro e w3 ⟨rfl, hS3⟩
    go_wp2_with fail
    have HS3 : Aside (St w1 w3 pb M2 c []) := hS3
    have hcl : ∀ W, Below w3.heap.size w3 W → W.cell? ⟨w.heap.size, 0, none⟩ = some (.string nm) ∧ W.cell? ⟨w.heap.size, 2, none⟩ = some (.string ty) := fun W hW => HS4.out W (HS3.out.wr.trans (Wrote.grown (grown_below hW) (Nat.le_of_lt HS3.out.pen.lt)))
    clear hS3 hx2 hS2
    refine V.wp_region_W (fun W => Below w3.heap.size w3 W) 7 (by kernel_rfl) ?_
    have hS0 : Below w3.heap.size w3 w3.drew := (Below.refl _ _).drew
    generalize w3.drew = wd at *
    have hne9 : Nonempty (Cls (fun W => Below w3.heap.size w3 W)) := ⟨⟨w3, Below.refl _ _⟩⟩
    have z3 : ∀ z : Cls (fun W => Below w3.heap.size w3 W), z.w.cell? ⟨w.heap.size, 0, none⟩ = some (.string nm) := fun z => (hcl z.w z.h).1
    have z4 : ∀ z : Cls (fun W => Below w3.heap.size w3 W), z.w.cell? ⟨w.heap.size, 2, none⟩ = some (.string ty) := fun z => (hcl z.w z.h).2
    clear hcl
    have HS0 : Aside (Below w3.heap.size w3 wd) := hS0
    refine V.wpAnyW.quiet (by kernel_rfl) (by kernel_rfl) (fun _ _ _ _ _ h => h) hS0 [0, 1, 2, 3, 4] (by rfl) 3 _ _ (V.head0 7) (by kernel_rfl) ?_
    clear hS0
    simp only [V.pickL, List.filterMap_cons, List.filterMap_nil, List.getElem?_toArray, List.getElem?_cons_zero, List.getElem?_cons_succ]
    repeat (show wpQuiet _ _ _ _ (_ :: _) _; go_big_quiet_step (fail))
    refine wpQuiet_nil ?_
    clear z3 z4 hne9
    refine V.wpAnyW.event 5 (by decide) (by kernel_rfl) rfl ?_
    go_wp2_with fail
    refine (htt _).mono ?_
    rintro e w4 ⟨rfl, hB4⟩
    go_wp2_with fail
    have HB4 : Aside (Below w3.heap.size w3 w4) := HS0.out.trans (hB4.mono HS0.out.size)
    refine ⟨fun W => Below w3.heap.size w3 W, fun _ h => h, HB4.out, ?_⟩
    clear hB4
    refine V.wpAnyW.event 6 (by decide) (by kernel_rfl) rfl ?_
    go_wp2_with fail
    refine ⟨fun W => Below w3.heap.size w3 W, fun _ h => h, HB4.out.alloc HB4.out.size _, ?_⟩
    refine V.wpAnyW.last (by kernel_rfl) rfl (by kernel_rfl) ?_
    have hq := hmid _ w4 _ (HS3.out.below HB4.out) hM2
    go_wp2_with fail
    refine hq.mono ?_
    rintro e w5 ⟨rfl, hS5⟩
    have ht5 := HST.out w5 hS5.wr
    have hq5 := htree _ w5 _ hS5 hM3
    clear hq
    go_wp2_with fail
    refine NoPanic.normal ?_
    refine NoPanic.normal ?_
    go_wp2_with fail
    refine hq5.mono ?_
    rintro e w6 ⟨rfl, c6, hS6⟩
    have hq6 := hend _ w6 _ hS6 hM4
    clear ht5 hq5 hS5
    go_wp2_with fail
    refine hq6.mono ?_
    rintro e w7 ⟨rfl, hS7⟩
    go_wp2_with fail
    go_end0
    exact ⟨rfl, c6, HF2.out ▸ ⟨hS7.pen, hS7.nodes, hS7.low, hS7.tab, hfin.out _ hS7.wr⟩⟩
  | false =>
    have HF2 : Aside (FF = M1 ++ MI ++ P ++ [[59, 10]].flatten) := by show _ = _; rw [HF1.out]; simp
    have hM2 : M1.length ≤ M1.length + 7 := by omega
    clear hexp
    have hM3 := hnl2 _ hM2
    have hM4 := hpl2 _ hM3
    clear HF1 hnl2 hpl2
    go_enter Tryz.func69, Tryz.ntmps69
    go_wp2_with fail
    refine hq1.mono ?_
    rintro e w2 ⟨rfl, hS2⟩
    rw [← hw1] at hS2
    have hx2 := HEX.out w2 hS2.wr
    go_wp2_with fail
    have HS3 : Aside (St w1 w2 pb M1 c []) := hS2
    have hcl : ∀ W, Below w2.heap.size w2 W → W.cell? ⟨w.heap.size, 0, none⟩ = some (.string nm) ∧ W.cell? ⟨w.heap.size, 2, none⟩ = some (.string ty) := fun W hW => HS4.out W (HS3.out.wr.trans (Wrote.grown (grown_below hW) (Nat.le_of_lt HS3.out.pen.lt)))
    clear hS2 hx2
    refine V.wp_region_W (fun W => Below w2.heap.size w2 W) 7 (by kernel_rfl) ?_
    have hS0 : Below w2.heap.size w2 w2.drew := (Below.refl _ _).drew
    generalize w2.drew = wd at *
    have hne9 : Nonempty (Cls (fun W => Below w2.heap.size w2 W)) := ⟨⟨w2, Below.refl _ _⟩⟩
    have z3 : ∀ z : Cls (fun W => Below w2.heap.size w2 W), z.w.cell? ⟨w.heap.size, 0, none⟩ = some (.string nm) := fun z => (hcl z.w z.h).1
    have z4 : ∀ z : Cls (fun W => Below w2.heap.size w2 W), z.w.cell? ⟨w.heap.size, 2, none⟩ = some (.string ty) := fun z => (hcl z.w z.h).2
    clear hcl
    have HS0 : Aside (Below w2.heap.size w2 wd) := hS0
    refine V.wpAnyW.quiet (by kernel_rfl) (by kernel_rfl) (fun _ _ _ _ _ h => h) hS0 [0, 1, 2, 3, 4] (by rfl) 3 _ _ (V.head0 7) (by kernel_rfl) ?_
    clear hS0
    simp only [V.pickL, List.filterMap_cons, List.filterMap_nil, List.getElem?_toArray, List.getElem?_cons_zero, List.getElem?_cons_succ]
    repeat (show wpQuiet _ _ _ _ (_ :: _) _; go_big_quiet_step (fail))
    refine wpQuiet_nil ?_
    clear z3 z4 hne9
    refine V.wpAnyW.event 5 (by decide) (by kernel_rfl) rfl ?_
    go_wp2_with fail
    refine (htt _).mono ?_
    rintro e w4 ⟨rfl, hB4⟩
    go_wp2_with fail
    have HB4 : Aside (Below w2.heap.size w2 w4) := HS0.out.trans (hB4.mono HS0.out.size)
    refine ⟨fun W => Below w2.heap.size w2 W, fun _ h => h, HB4.out, ?_⟩
    clear hB4
    refine V.wpAnyW.event 6 (by decide) (by kernel_rfl) rfl ?_
    go_wp2_with fail
    refine ⟨fun W => Below w2.heap.size w2 W, fun _ h => h, HB4.out.alloc HB4.out.size _, ?_⟩
    refine V.wpAnyW.last (by kernel_rfl) rfl (by kernel_rfl) ?_
    have hq := hmid _ w4 _ (HS3.out.below HB4.out) hM2
    go_wp2_with fail
    refine hq.mono ?_
    rintro e w5 ⟨rfl, hS5⟩
    have ht5 := HST.out w5 hS5.wr
    have hq5 := htree _ w5 _ hS5 hM3
    clear hq
    go_wp2_with fail
    refine NoPanic.normal ?_
    refine NoPanic.normal ?_
    go_wp2_with fail
    refine hq5.mono ?_
    rintro e w6 ⟨rfl, c6, hS6⟩
    have hq6 := hend _ w6 _ hS6 hM4
    clear ht5 hq5 hS5
    go_wp2_with fail
    refine hq6.mono ?_
    rintro e w7 ⟨rfl, hS7⟩
    go_wp2_with fail
    go_end0
    exact ⟨rfl, c6, HF2.out ▸ ⟨hS7.pen, hS7.nodes, hS7.low, hS7.tab, hfin.out _ hS7.wr⟩⟩
end Go.Proofs.YtpikfdkgblghhaaGreatDoor
namespace Go.Proofs.YtpikfdkgblghhaaGreatDoor
open Go.RowKit Pn
set_option maxRecDepth 100000
set_option linter.unusedSimpArgs false
set_option linter.unusedVariables false
namespace Pn
/-- A module that may be. -/
structure MdOk (m : Md) : Prop where
  n : nameB m.name.data.toList = true
  i : ∀ x ∈ m.imps, imB x = true
  d : ∀ x ∈ m.defs, DfOk x
  il : m.imps.length ≤ 64
  dl : m.defs.length ≤ 64
theorem imB_parts {x : Im} (h : imB x = true) : nameB x.frm.data.toList = true ∧ nameB x.name.data.toList = true ∧ noteB x.t.data.toList = true := by
  unfold imB at h
  simp only [Bool.and_eq_true] at h
  exact ⟨h.1.1, h.1.2, h.2⟩
theorem imT_len {x : Im} (h : imB x = true) : (imT x).length ≤ 800 := by
  obtain ⟨h1, h2, h3⟩ := imB_parts h
  have := name_len h1
  have := name_len h2
  have := note_len h3
  unfold imT
  simp only [List.length_append, List.length_cons, List.length_nil]
  omega
theorem imsT_len : ∀ (l : List Im), (∀ x ∈ l, imB x = true) → (imsT l).length ≤ 800 * l.length
  | [], _ => by simp [imsT]
  | x :: r, h => by
    have h1 := imT_len (h x (by simp))
    have h2 := imsT_len r (fun y hy => h y (by simp [hy]))
    rw [imsT_cons, List.length_append, List.length_cons]
    omega
theorem dfsT_len : ∀ (l : List Df), (∀ x ∈ l, DfOk x) → (dfsT l).length ≤ 9500000 * l.length
  | [], _ => by simp [dfsT]
  | x :: r, h => by
    have h1 := dfT_len (h x (by simp))
    have h2 := dfsT_len r (fun y hy => h y (by simp [hy]))
    rw [dfsT_cons, List.length_append, List.length_cons]
    omega
theorem mdT_len {m : Md} (h : MdOk m) : (mdT m).length ≤ 620000000 := by
  have h1 := name_len h.n
  have h2 := imsT_len m.imps h.i
  have h3 := dfsT_len m.defs h.d
  have h4 := h.il
  have h5 := h.dl
  unfold mdT
  simp only [List.length_append, List.length_cons, List.length_nil]
  omega
theorem drop_at1 {α : Type} {l : List α} {k : Nat} {x : α} (h : l[k]? = some x) : l.drop k = x :: l.drop (k + 1) := by
  obtain ⟨hk, rfl⟩ := List.getElem?_eq_some_iff.1 h
  exact List.drop_eq_getElem_cons hk
/-- An import, a def of a row that lies in old memory, in any later world. -/
theorem imp_at {wI : World} {a : Option Addr} {n c : Nat} {l : List Im} (h : IsImps wI (.slice a n c) l) {k : Nat} {x : Im} (hx : l[k]? = some x) :
    ∃ b o, a = some ⟨b, o, none⟩ ∧ n ≤ c ∧ ∀ W, Below wI.heap.size wI W → W.cell? ⟨b, o + k * 5, none⟩ = some (.string x.frm) ∧ W.cell? ⟨b, o + k * 5 + 1, none⟩ = some (.string x.name) ∧ W.cell? ⟨b, o + k * 5 + 2, none⟩ = some (.string x.t) ∧ W.cell? ⟨b, o + k * 5 + 3, none⟩ = some (.int .i64 x.ln) ∧ W.cell? ⟨b, o + k * 5 + 4, none⟩ = some (.int .i64 x.co) := by
  obtain ⟨b, o, e1, e2, e3, c0, c1, c2, c3, c4⟩ := h.at hx
  exact ⟨b, o, e1, e2, fun W hW => ⟨(hW.cell (p := ⟨b, _, none⟩) e3).trans c0, (hW.cell (p := ⟨b, _, none⟩) e3).trans c1, (hW.cell (p := ⟨b, _, none⟩) e3).trans c2, (hW.cell (p := ⟨b, _, none⟩) e3).trans c3, (hW.cell (p := ⟨b, _, none⟩) e3).trans c4⟩⟩
theorem def_at {wI : World} {a : Option Addr} {n c : Nat} {l : List Df} (h : IsDefs wI (.slice a n c) l) {k : Nat} {x : Df} (hx : l[k]? = some x) :
    ∃ b o tv, a = some ⟨b, o, none⟩ ∧ n ≤ c ∧ IsNodes wI tv x.tree ∧ ∀ W, Below wI.heap.size wI W → W.cell? ⟨b, o + k * 6, none⟩ = some (.string x.name) ∧ W.cell? ⟨b, o + k * 6 + 1, none⟩ = some (.bool x.exp) ∧ W.cell? ⟨b, o + k * 6 + 2, none⟩ = some (.string x.t) ∧ W.cell? ⟨b, o + k * 6 + 3, none⟩ = some tv ∧ W.cell? ⟨b, o + k * 6 + 4, none⟩ = some (.int .i64 x.ln) ∧ W.cell? ⟨b, o + k * 6 + 5, none⟩ = some (.int .i64 x.co) := by
  obtain ⟨b, o, e1, e2, e3, ta, tc, ht, c0, c1, c2, c3, c4, c5⟩ := h.at hx
  exact ⟨b, o, _, e1, e2, ht, fun W hW => ⟨(hW.cell (p := ⟨b, _, none⟩) e3).trans c0, (hW.cell (p := ⟨b, _, none⟩) e3).trans c1, (hW.cell (p := ⟨b, _, none⟩) e3).trans c2, (hW.cell (p := ⟨b, _, none⟩) e3).trans c3, (hW.cell (p := ⟨b, _, none⟩) e3).trans c4, (hW.cell (p := ⟨b, _, none⟩) e3).trans c5⟩⟩
def mdagg (m : Md) (iv dv : Value) : Value := .agg #[.string m.name, iv, dv, .int .i64 m.ln, .int .i64 m.co]
end Pn

set_option maxHeartbeats 4000000 in
/-- One import is written. -/
theorem imp_put (pb : Nat) (M : List UInt8) (c : Value) (x : Im) (w0 w : World) (h : St w0 w pb M c []) (hx : imB x = true) (hlen : M.length + 1000 ≤ 10000000000) :
    ∀ W, Below w.heap.size w W → Calls Tryz.prog 67 #[.pointer (some ⟨pb, 0, none⟩), .slice (some ⟨W.heap.size, 0, none⟩) 6 6] (W.alloc (.cells #[.string (S [32, 32, 105, 109, 112, 111, 114, 116, 32]), .string x.frm, .string (S [46]), .string x.name, .string (S (note x.t.data.toList)), .string (S [59, 10])] 9)) fun e w' => e = .returned (.tuple #[]) ∧ St w0 w' pb (M ++ imT x) c [] := by
  intro W hW
  obtain ⟨h1, h2, h3⟩ := imB_parts hx
  have := name_len h1
  have := name_len h2
  have := note_len h3
  have hf : [[32, 32, 105, 109, 112, 111, 114, 116, 32], x.frm.data.toList, [46], x.name.data.toList, note x.t.data.toList, [59, 10]].flatten = imT x := by unfold imT; simp
  have hq := put_st pb M c [] [[32, 32, 105, 109, 112, 111, 114, 116, 32], x.frm.data.toList, [46], x.name.data.toList, note x.t.data.toList, [59, 10]] w0 W (h.below hW) (by simp) (by rw [hf]; have := imT_len hx; omega)
  rw [hf] at hq
  exact hq

set_option maxHeartbeats 8000000 in
theorem module_st (pb : Nat) (L : List UInt8) (c iv dv : Value) (m : Md) (wI w0 w : World) (h : St w0 w pb L c []) (hm : MdOk m) (hI : IsImps wI iv m.imps) (hD : IsDefs wI dv m.defs) (hpb : wI.heap.size ≤ pb) (hBI : Below wI.heap.size wI w) (hlen : L.length + 700000000 ≤ 10000000000) :
    Calls Tryz.prog 34 #[.pointer (some ⟨pb, 0, none⟩), mdagg m iv dv] w (Done w0 pb (L ++ mdT m) []) := by
  have hnn := name_len hm.n
  have hil := hm.il
  have hdl := hm.dl
  have himl := imsT_len m.imps hm.i
  have hdfl := dfsT_len m.defs hm.d
  obtain ⟨ia, ic, rfl⟩ := RowOf.form hI
  obtain ⟨da, dc, rfl⟩ := RowOf.form hD
  have h0 := h.now
  have hlt := h.pen.lt
  have h1 := h0.alloc (.cells #[.string m.name, .slice ia m.imps.length ic, .slice da m.defs.length dc, .int .i64 m.ln, .int .i64 m.co] 58)
  have hsz0 : (w.alloc (.cells #[.string m.name, .slice ia m.imps.length ic, .slice da m.defs.length dc, .int .i64 m.ln, .int .i64 m.co] 58)).heap.size = w.heap.size + 1 := by simp
  have hbk := heap_alloc_new w (.cells #[.string m.name, .slice ia m.imps.length ic, .slice da m.defs.length dc, .int .i64 m.ln, .int .i64 m.co] 58)
  obtain ⟨w1, hw1⟩ : ∃ w1, w1 = w.alloc (.cells #[.string m.name, .slice ia m.imps.length ic, .slice da m.defs.length dc, .int .i64 m.ln, .int .i64 m.co] 58) := ⟨_, rfl⟩
  have hB1 : Below w.heap.size w w1 := by rw [hw1]; exact (Below.refl _ _).alloc (Nat.le_refl _) _
  rw [← hw1] at h1 hsz0 hbk
  have hlt1 : pb < w1.heap.size := by omega
  have HST : Aside (∀ W, Wrote w1 W pb → W.cell? ⟨w.heap.size, 1, none⟩ = some (.slice ia m.imps.length ic) ∧ W.cell? ⟨w.heap.size, 2, none⟩ = some (.slice da m.defs.length dc)) := fun W hW => by
    have hb := (block_cells (hW.at hbk (by omega) (by decide))).1
    exact ⟨hb 1, hb 2⟩
  have HBI : Aside (∀ W, Wrote w1 W pb → Below wI.heap.size wI W) := fun W hW => (hBI.trans (hB1.mono hBI.size)).trans (hW.1.mono hpb)
  have hp1 := put_st pb L c [] [[109, 111, 100, 117, 108, 101, 32], m.name.data.toList, [32, 123, 10]] w1 w1 h1.now (by simp) (by simp only [List.flatten_cons, List.flatten_nil, List.length_append, List.length_cons, List.length_nil]; omega)
  have hM1 : (L ++ [[109, 111, 100, 117, 108, 101, 32], m.name.data.toList, [32, 123, 10]].flatten).length ≤ L.length + 50 := by simp only [List.flatten_cons, List.flatten_nil, List.length_append, List.length_cons, List.length_nil]; omega
  have HF : Aside (L ++ mdT m = L ++ [[109, 111, 100, 117, 108, 101, 32], m.name.data.toList, [32, 123, 10]].flatten ++ (imsT (m.imps.drop 0) ++ (dfsT (m.defs.drop 0) ++ [[125, 10]].flatten))) := by show _ = _; unfold mdT; simp
  have hp1' : Calls Tryz.prog 67 #[.pointer (some ⟨pb, 0, none⟩), .slice (some ⟨w1.heap.size, 0, none⟩) 3 3] (w1.alloc (.cells #[.string (S [109, 111, 100, 117, 108, 101, 32]), .string m.name, .string (S [32, 123, 10])] 9)) fun e w' => e = .returned (.tuple #[]) ∧ St w1 w' pb (L ++ [[109, 111, 100, 117, 108, 101, 32], m.name.data.toList, [32, 123, 10]].flatten) c [] := hp1
  have hfin : Aside (∀ w', Wrote w1 w' pb → Wrote w0 w' pb) := fun w' hW => (h.wr.trans (Wrote.grown (grown_below hB1) (Nat.le_of_lt hlt))).trans hW
  have hM1b : (L ++ [[109, 111, 100, 117, 108, 101, 32], m.name.data.toList, [32, 123, 10]].flatten).length + (imsT (m.imps.drop 0)).length + (dfsT (m.defs.drop 0)).length ≤ L.length + 650000000 := by rw [List.drop_zero, List.drop_zero]; omega
  generalize L ++ mdT m = FF at *
  generalize L ++ [[109, 111, 100, 117, 108, 101, 32], m.name.data.toList, [32, 123, 10]].flatten = M1 at *
  obtain ⟨mn, imps, defs, mln, mco⟩ := m
  have hmi : ∀ x ∈ imps, imB x = true := hm.i
  have hmd : ∀ x ∈ defs, DfOk x := hm.d
  simp only at hI hD hil hdl HST hp1' HF hM1b hw1
  simp only [mdagg]
  rw [hsz0] at hp1'
  rw [hw1] at hp1'
  clear hp1 hm hnn himl hdfl hbk h h0 hBI hM1
  go_enter Tryz.func34, Tryz.ntmps34
  go_wp2_with fail
  refine hp1'.mono ?_
  rintro e w2 ⟨rfl, hS2⟩
  rw [← hw1] at hS2
  have q1 := (HST.out w2 hS2.wr).1
  clear hp1' hw1
  go_wp2_with fail
  go_loopg [16] imps.length (fun gk x wr => ∃ (k : Nat) (M : List UInt8) (c' : Value), k + gk = imps.length ∧ x = .int .i64 (k : Int) ∧ St w1 wr pb M c' [] ∧ Aside (FF = M ++ (imsT (imps.drop k) ++ (dfsT (defs.drop 0) ++ [[125, 10]].flatten))) ∧ M.length + (imsT (imps.drop k)).length + (dfsT (defs.drop 0)).length ≤ L.length + 650000000)
  case atStart => exact ⟨0, M1, c, by omega, rfl, hS2, HF, hM1b⟩
  case round =>
    clear q1 hM1b HF hS2
    obtain ⟨k, M, c', hkg, rfl, hS, HF, hM⟩ := hrel
    by_cases hk : k < imps.length
    · obtain ⟨x, hx⟩ := getA hk
      have hk' : (k : Int) < (imps.length : Int) := by omega
      have hk0 : (0 : Int) ≤ (k : Int) := by omega
      obtain ⟨b, o, rfl, hc, hcells⟩ := imp_at hI hx
      obtain ⟨x0, x1, x2, x3, x4⟩ := hcells wr (HBI.out wr hS.wr)
      have hxb := hmi x (List.mem_of_getElem? hx)
      have hS3 := hS.alloc (.cells #[.string x.frm, .string x.name, .string x.t, .int .i64 x.ln, .int .i64 x.co] 71)
      have hbk := heap_alloc_new wr (.cells #[.string x.frm, .string x.name, .string x.t, .int .i64 x.ln, .int .i64 x.co] 71)
      obtain ⟨w3, hw3⟩ : ∃ w3, w3 = wr.alloc (.cells #[.string x.frm, .string x.name, .string x.t, .int .i64 x.ln, .int .i64 x.co] 71) := ⟨_, rfl⟩
      have hsz3 : w3.heap.size = wr.heap.size + 1 := by rw [hw3]; simp
      rw [← hw3] at hS3 hbk
      have hD1 := drop_at1 hx
      rw [hD1, imsT_cons] at HF hM
      rw [List.length_append] at hM
      have HN : Aside (FF = M ++ imT x ++ (imsT (imps.drop (k + 1)) ++ (dfsT (defs.drop 0) ++ [[125, 10]].flatten))) := by show _ = _; rw [HF.out]; simp
      have hN : (M ++ imT x).length + (imsT (imps.drop (k + 1))).length + (dfsT (defs.drop 0)).length ≤ L.length + 650000000 := by rw [List.length_append]; omega
      have hpi := imp_put pb M c' x w1 w3 hS3 hxb (by omega)
      have htt := typed_any x.t (imB_parts hxb).2.2
      have hcl : ∀ W, Below w3.heap.size w3 W → W.cell? ⟨wr.heap.size, 0, none⟩ = some (.string x.frm) ∧ W.cell? ⟨wr.heap.size, 1, none⟩ = some (.string x.name) ∧ W.cell? ⟨wr.heap.size, 2, none⟩ = some (.string x.t) := fun W hW => by
        have hb := (block_cells hbk).1
        exact ⟨(hW.cell (p := ⟨wr.heap.size, 0, none⟩) (by show wr.heap.size < _; omega)).trans (hb 0), (hW.cell (p := ⟨wr.heap.size, 1, none⟩) (by show wr.heap.size < _; omega)).trans (hb 1), (hW.cell (p := ⟨wr.heap.size, 2, none⟩) (by show wr.heap.size < _; omega)).trans (hb 2)⟩
      clear HF hM hD1 hcells hbk hx hxb hS hS3
      generalize M ++ imT x = M2 at *
      generalize S (note x.t.data.toList) = nt at *
      obtain ⟨xf, xn, xt, xl, xc⟩ := x
      simp only at x0 x1 x2 x3 x4 hpi htt hcl hw3
      go_wp2_with fail
      rw [← hw3]
      refine V.wp_region_W (fun W => Below w3.heap.size w3 W) 9 (by kernel_rfl) ?_
      have hS0 : Below w3.heap.size w3 w3.drew := (Below.refl _ _).drew
      generalize w3.drew = wd at *
      have hne9 : Nonempty (Cls (fun W => Below w3.heap.size w3 W)) := ⟨⟨w3, Below.refl _ _⟩⟩
      have z0 : ∀ z : Cls (fun W => Below w3.heap.size w3 W), z.w.cell? ⟨wr.heap.size, 0, none⟩ = some (.string xf) := fun z => (hcl z.w z.h).1
      have z1 : ∀ z : Cls (fun W => Below w3.heap.size w3 W), z.w.cell? ⟨wr.heap.size, 1, none⟩ = some (.string xn) := fun z => (hcl z.w z.h).2.1
      have z2 : ∀ z : Cls (fun W => Below w3.heap.size w3 W), z.w.cell? ⟨wr.heap.size, 2, none⟩ = some (.string xt) := fun z => (hcl z.w z.h).2.2
      have HS0 : Aside (Below w3.heap.size w3 wd) := hS0
      clear hcl x0 x1 x2 x3 x4 hw3 hsz3
      refine V.wpAnyW.quiet (by kernel_rfl) (by kernel_rfl) (fun _ _ _ _ _ h => h) hS0 [0, 1, 2, 3, 4, 5, 6] (by rfl) 3 _ _ (V.head0 9) (by kernel_rfl) ?_
      clear hS0
      simp only [V.pickL, List.filterMap_cons, List.filterMap_nil, List.getElem?_toArray, List.getElem?_cons_zero, List.getElem?_cons_succ]
      repeat (show wpQuiet _ _ _ _ (_ :: _) _; go_big_quiet_step (fail))
      refine wpQuiet_nil ?_
      clear z0 z1 z2 hne9
      refine V.wpAnyW.event 7 (by decide) (by kernel_rfl) rfl ?_
      go_wp2_with fail
      refine (htt _).mono ?_
      rintro e w4 ⟨rfl, hB4⟩
      go_wp2_with fail
      have HB4 : Aside (Below w3.heap.size w3 w4) := HS0.out.trans (hB4.mono HS0.out.size)
      refine ⟨fun W => Below w3.heap.size w3 W, fun _ h => h, HB4.out, ?_⟩
      clear hB4
      refine V.wpAnyW.event 8 (by decide) (by kernel_rfl) rfl ?_
      go_wp2_with fail
      refine ⟨fun W => Below w3.heap.size w3 W, fun _ h => h, HB4.out.alloc HB4.out.size _, ?_⟩
      refine V.wpAnyW.last (by kernel_rfl) rfl (by kernel_rfl) ?_
      have hq := hpi w4 HB4.out
      go_wp2_with fail
      refine hq.mono ?_
      rintro e w5 ⟨rfl, hS5⟩
      clear hq hpi htt
      go_wp2_with fail
      refine NoPanic.normal ?_
      refine NoPanic.normal ?_
      go_wp2_with fail
      go_roundg (gk - 1)
      case measure => omega
      case rel => exact ⟨k + 1, M2, c', by omega, by go_num, hS5, HN, hN⟩
    · obtain rfl : k = imps.length := by omega
      have hkn : ¬ ((imps.length : Nat) : Int) < (imps.length : Int) := by omega
      rw [List.drop_length] at HF hM
      have HF2 : Aside (FF = M ++ (dfsT (defs.drop 0) ++ [[125, 10]].flatten)) := by show _ = _; rw [HF.out]; simp [imsT]
      have hM2 : M.length + (dfsT (defs.drop 0)).length ≤ L.length + 650000000 := by omega
      have q2 := (HST.out wr hS.wr).2
      have HS : Aside (St w1 wr pb M c' []) := hS
      clear HF hM hS
      go_wp2_with fail
      go_loopg [34] defs.length (fun gk x wq => ∃ (k : Nat) (M : List UInt8) (c' : Value), k + gk = defs.length ∧ x = .int .i64 (k : Int) ∧ St w1 wq pb M c' [] ∧ Aside (FF = M ++ (dfsT (defs.drop k) ++ [[125, 10]].flatten)) ∧ M.length + (dfsT (defs.drop k)).length ≤ L.length + 650000000)
      case atStart => exact ⟨0, M, c', by omega, rfl, HS.out, HF2, hM2⟩
      case round =>
        clear q2 HF2 hM2 HS
        obtain ⟨k, M, c', hkg, rfl, hS, HF, hM⟩ := hrel
        by_cases hk : k < defs.length
        · obtain ⟨x, hx⟩ := getA hk
          have hk' : (k : Int) < (defs.length : Int) := by omega
          have hk0 : (0 : Int) ≤ (k : Int) := by omega
          obtain ⟨b, o, tv, rfl, hc, htv, hcells⟩ := def_at hD hx
          obtain ⟨x0, x1, x2, x3, x4, x5⟩ := hcells wr (HBI.out wr hS.wr)
          have hxd := hmd x (List.mem_of_getElem? hx)
          obtain ⟨ta, tc, rfl⟩ := htv.form
          have hne : x.tree ≠ [] := by
            obtain ⟨t, _, e, _, _⟩ := hxd.tree
            rw [e]
            intro e2
            have := Tr.flat_pos t
            rw [e2] at this
            simp at this
          have hlow : Low (.slice ta x.tree.length tc) pb := fun b o n c e => Nat.lt_of_lt_of_le (nodes_in htv hne b o n c e) hpb
          have hS3 := hS.alloc (.cells #[.string x.name, .bool x.exp, .string x.t, .slice ta x.tree.length tc, .int .i64 x.ln, .int .i64 x.co] 54)
          have hD1 := drop_at1 hx
          rw [hD1, dfsT_cons] at HF hM
          rw [List.length_append] at hM
          have HN : Aside (FF = M ++ dfT x ++ (dfsT (defs.drop (k + 1)) ++ [[125, 10]].flatten)) := by show _ = _; rw [HF.out]; simp
          have hN : (M ++ dfT x).length + (dfsT (defs.drop (k + 1))).length ≤ L.length + 650000000 := by rw [List.length_append]; omega
          have hdf := def_st pb M c' (.slice ta x.tree.length tc) x w1 _ hS3 hxd (htv.below (HBI.out _ hS3.wr)) hlow (by omega)
          clear HF hM hD1 hcells hx hxd hS hS3 htv hlow hne
          generalize M ++ dfT x = M2 at *
          obtain ⟨xn, xe, xt, xtr, xl, xc⟩ := x
          simp only [dfagg] at hdf
          simp only at x0 x1 x2 x3 x4 x5
          go_wp2_with fail
          refine hdf.mono ?_
          rintro e w5 ⟨rfl, c5, hS5⟩
          clear hdf x0 x1 x2 x3 x4 x5
          go_wp2_with fail
          go_roundg (gk - 1)
          case measure => omega
          case rel => exact ⟨k + 1, M2, c5, by omega, by go_num, hS5, HN, hN⟩
        · obtain rfl : k = defs.length := by omega
          have hkn : ¬ ((defs.length : Nat) : Int) < (defs.length : Int) := by omega
          rw [List.drop_length] at HF hM
          have HF2 : Aside (M ++ [[125, 10]].flatten = FF) := by show _ = _; rw [HF.out]; simp [dfsT]
          have hpe := put_st pb M c' [] [[125, 10]] w1 wr hS (by simp) (by simp; omega)
          have hpe' : Calls Tryz.prog 67 #[.pointer (some ⟨pb, 0, none⟩), .slice (some ⟨wr.heap.size, 0, none⟩) 1 1] (wr.alloc (.cells #[.string (S [125, 10])] 9)) fun e w' => e = .returned (.tuple #[]) ∧ St w1 w' pb (M ++ [[125, 10]].flatten) c' [] := hpe
          clear HF hM hS hpe
          generalize M ++ [[125, 10]].flatten = M2 at *
          go_wp2_with fail
          refine hpe'.mono ?_
          rintro e w6 ⟨rfl, hS6⟩
          go_wp2_with fail
          go_end0
          exact ⟨rfl, c', HF2.out ▸ ⟨hS6.pen, hS6.nodes, hS6.low, hS6.tab, hfin.out _ hS6.wr⟩⟩
end Go.Proofs.YtpikfdkgblghhaaGreatDoor
namespace Go.Proofs.YtpikfdkgblghhaaGreatDoor
open Go.RowKit Pn
set_option maxRecDepth 100000
set_option linter.unusedSimpArgs false
set_option linter.unusedVariables false
namespace Pn
theorem chkDs_all : ∀ (l : List Df), chkDs l = 0 → ∀ x ∈ l, dfB x = true ∧ (chkN x.tree).1 = 0
  | [], _, x, hx => by cases hx
  | y :: r, h, x, hx => by
    rw [chkDs] at h
    by_cases h1 : dfB y = true
    · rw [if_pos h1] at h
      by_cases h2 : (chkN y.tree).1 = 0
      · rw [if_pos h2] at h
        rcases List.mem_cons.1 hx with rfl | hx
        · exact ⟨h1, h2⟩
        · exact chkDs_all r h x hx
      · rw [if_neg h2] at h; exact absurd h h2
    · rw [if_neg h1] at h; cases h
theorem chkM_all {m : Md} (h : chkM m = 0) : nameB m.name.data.toList = true ∧ (∀ x ∈ m.imps, imB x = true) ∧ ∀ x ∈ m.defs, dfB x = true ∧ (chkN x.tree).1 = 0 := by
  unfold chkM at h
  by_cases h1 : nameB m.name.data.toList = true
  · rw [if_pos h1] at h
    by_cases h2 : m.imps.all imB = true
    · rw [if_pos h2] at h
      exact ⟨h1, fun x hx => List.all_eq_true.1 h2 x hx, chkDs_all _ h⟩
    · rw [if_neg h2] at h; cases h
  · rw [if_neg h1] at h; cases h
theorem chkMs_all : ∀ (l : List Md), chkMs l = 0 → ∀ m ∈ l, chkM m = 0
  | [], _, m, hm => by cases hm
  | y :: r, h, m, hm => by
    rw [chkMs] at h
    by_cases h1 : chkM y = 0
    · rw [if_pos h1] at h
      rcases List.mem_cons.1 hm with rfl | hm
      · exact h1
      · exact chkMs_all r h m hm
    · rw [if_neg h1] at h; exact absurd h h1
/-- Modules that are taken may be. -/
theorem mods_ok {l : List Md} (h : modN l = 0) (hh : ∀ m ∈ l, ∀ x ∈ m.defs, ∀ y ∈ x.tree, Held y) : l.length ≤ 8 ∧ ∀ m ∈ l, MdOk m := by
  by_cases h8 : 8 < l.length
  · rw [modN_many h8] at h; cases h
  by_cases hb : l.any big = true
  · rw [modN_big h8 hb] at h; cases h
  have hb' : l.any big = false := by simpa using hb
  by_cases hc : chkMs l = 0
  · refine ⟨by omega, fun m hm => ?_⟩
    obtain ⟨h1, h2, h3⟩ := chkM_all (chkMs_all l hc m hm)
    have hbm : big m = false := by
      by_cases e : big m = true
      · exact absurd (List.any_eq_true.2 ⟨m, hm, e⟩) hb
      · simpa using e
    unfold big at hbm
    simp at hbm
    exact ⟨h1, h2, fun x hx => ⟨(h3 x hx).1, (h3 x hx).2, hh m hm x hx⟩, by omega, by omega⟩
  · rw [modN_bad h8 hb' hc] at h; exact absurd h hc
theorem mdsT_len : ∀ (l : List Md), (∀ m ∈ l, MdOk m) → (mdsT l).length ≤ 620000000 * l.length
  | [], _ => by simp [mdsT]
  | x :: r, h => by
    have h1 := mdT_len (h x (by simp))
    have h2 := mdsT_len r (fun y hy => h y (by simp [hy]))
    rw [mdsT_cons, List.length_append, List.length_cons]
    omega
theorem mod_at {wI : World} {a : Option Addr} {n c : Nat} {l : List Md} (h : IsMods wI (.slice a n c) l) {k : Nat} {x : Md} (hx : l[k]? = some x) :
    ∃ b o ia ic da dc, a = some ⟨b, o, none⟩ ∧ n ≤ c ∧ IsImps wI (.slice ia x.imps.length ic) x.imps ∧ IsDefs wI (.slice da x.defs.length dc) x.defs ∧ ∀ W, Below wI.heap.size wI W → W.cell? ⟨b, o + k * 5, none⟩ = some (.string x.name) ∧ W.cell? ⟨b, o + k * 5 + 1, none⟩ = some (.slice ia x.imps.length ic) ∧ W.cell? ⟨b, o + k * 5 + 2, none⟩ = some (.slice da x.defs.length dc) ∧ W.cell? ⟨b, o + k * 5 + 3, none⟩ = some (.int .i64 x.ln) ∧ W.cell? ⟨b, o + k * 5 + 4, none⟩ = some (.int .i64 x.co) := by
  obtain ⟨b, o, e1, e2, e3, ia, ic, da, dc, h1, h2, c0, c1, c2, c3, c4⟩ := h.at hx
  exact ⟨b, o, ia, ic, da, dc, e1, e2, h1, h2, fun W hW => ⟨(hW.cell (p := ⟨b, _, none⟩) e3).trans c0, (hW.cell (p := ⟨b, _, none⟩) e3).trans c1, (hW.cell (p := ⟨b, _, none⟩) e3).trans c2, (hW.cell (p := ⟨b, _, none⟩) e3).trans c3, (hW.cell (p := ⟨b, _, none⟩) e3).trans c4⟩⟩
end Pn

set_option maxHeartbeats 2000000 in
theorem pnModules_bad (l : List Md) (hf : FitsM l) (v : Value) (w : World) (hl : IsMods w v l) (hc : modN l ≠ 0) :
    Calls Tryz.prog 15 #[v] w fun e w' => e = .returned (.tuple #[.string (S []), .int .i64 (modN l : Int)]) ∧ Below w.heap.size w w' := by
  have hck := treeModules_any l hf v w hl
  have hc' : ((modN l : Int) != 0) = true := by simpa using hc
  generalize (modN l : Int) = r1 at *
  obtain ⟨va, vc, rfl⟩ := RowOf.form hl
  clear hc hl hf
  generalize l.length = ln at *
  go_enter Tryz.func15, Tryz.ntmps15
  go_wp2_with (go_at_call 33; refine hck.mono ?_; rintro e w1 ⟨rfl, hB1⟩)
  go_ret2
  exact ⟨rfl, hB1⟩

set_option maxHeartbeats 4000000 in
theorem pnModules_ok (l : List Md) (hf : FitsM l) (hh : ∀ m ∈ l, ∀ x ∈ m.defs, ∀ y ∈ x.tree, Held y) (v : Value) (w : World) (hl : IsMods w v l) (hT : Tab w) (hc : modN l = 0) :
    Calls Tryz.prog 15 #[v] w fun e w' => e = .returned (.tuple #[.string (S (srcS (mdsT l))), .int .i64 (srcE (mdsT l))]) ∧ Below w.heap.size w w' := by
  have hck := treeModules_any l hf v w hl
  obtain ⟨hl8, hok⟩ := mods_ok hc hh
  have hml := mdsT_len l hok
  obtain ⟨va, vc, rfl⟩ := RowOf.form hl
  rw [hc] at hck
  have hck' : Calls Tryz.prog 33 #[.slice va l.length vc] w fun e w' => e = .returned (.int .i64 0) ∧ Below w.heap.size w w' := hck
  have hsr := fun b c W h => source_any b (mdsT l) c W h
  have HF : Aside (mdsT l = [] ++ mdsT (l.drop 0)) := by show _ = _; simp
  generalize srcS (mdsT l) = q at *
  generalize srcE (mdsT l) = qe at *
  have HT : Aside (∀ W, Below w.heap.size w W → Tab W) := fun W hW => hT.below hW
  have HML : Aside ((mdsT l).length ≤ 5000000000) := by show _ ≤ _; omega
  generalize mdsT l = FF at *
  clear hck hf hh hc hT hml
  go_enter Tryz.func15, Tryz.ntmps15
  go_wp2_with (go_at_call 33; refine hck'.mono ?_; rintro e w1 ⟨rfl, hB1⟩)
  have hP := pen_new w1
  have hsz1 : (w1.alloc (.cells #[.pointer none, .slice none 0 0, .slice none 0 0] 66)).heap.size = w1.heap.size + 1 := by simp
  have hpb : w.heap.size ≤ w1.heap.size := hB1.size
  have hBa : Below w.heap.size w (w1.alloc (.cells #[.pointer none, .slice none 0 0, .slice none 0 0] 66)) := hB1.alloc hB1.size _
  obtain ⟨w2, hw2⟩ : ∃ w2, w2 = w1.alloc (.cells #[.pointer none, .slice none 0 0, .slice none 0 0] 66) := ⟨_, rfl⟩
  rw [← hw2] at hP hBa hsz1
  try rw [← hw2]
  try simp only [← hw2]
  obtain ⟨pb, hpbe⟩ : ∃ pb, pb = w1.heap.size := ⟨_, rfl⟩
  rw [← hpbe] at hP hpb hsz1
  simp only [← hpbe]
  have hS0 : St w2 w2 pb [] (.slice none 0 0) [] := ⟨hP, .inl ⟨rfl, _, _, rfl⟩, (fun b o n c e => (by cases e)), fun W hW => HT.out W (hBa.trans (hW.mono hpb)), Wrote.refl _ _⟩
  have HB : Aside (∀ W, Wrote w2 W pb → Below w.heap.size w W) := fun W hW => hBa.trans (hW.1.mono hpb)
  clear hP hBa hsz1 hB1 hck' hw2 hpbe
  go_wp2_with fail
  go_loopg [15] l.length (fun gk x wr => ∃ (k : Nat) (M : List UInt8) (c' : Value), k + gk = l.length ∧ x = .int .i64 (k : Int) ∧ St w2 wr pb M c' [] ∧ Aside (FF = M ++ mdsT (l.drop k)))
  case atStart => exact ⟨0, [], _, by omega, rfl, hS0, HF⟩
  case round =>
    clear hS0 HF
    obtain ⟨k, M, c', hkg, rfl, hS, HF⟩ := hrel
    by_cases hk : k < l.length
    · obtain ⟨m, hm⟩ := getA hk
      have hk' : (k : Int) < (l.length : Int) := by omega
      have hk0 : (0 : Int) ≤ (k : Int) := by omega
      obtain ⟨b, o, ia, ic, da, dc, rfl, hvc, hI, hD, hcells⟩ := mod_at hl hm
      obtain ⟨x0, x1, x2, x3, x4⟩ := hcells wr (HB.out wr hS.wr)
      have hS3 := hS.alloc (.cells #[.string m.name, .slice ia m.imps.length ic, .slice da m.defs.length dc, .int .i64 m.ln, .int .i64 m.co] 58)
      have hD1 := drop_at1 hm
      rw [hD1, mdsT_cons] at HF
      have HN : Aside (FF = M ++ mdT m ++ mdsT (l.drop (k + 1))) := by show _ = _; rw [HF.out]; simp
      have hML : M.length ≤ 5000000000 := by
        have h1 := HML.out
        rw [HF.out, List.length_append] at h1
        omega
      have hmd := module_st pb M c' (.slice ia m.imps.length ic) (.slice da m.defs.length dc) m w w2 _ hS3 (hok m (List.mem_of_getElem? hm)) hI hD hpb (HB.out _ hS3.wr) (by omega)
      clear HF hcells hm hS hS3 hI hD hD1 hML
      generalize M ++ mdT m = M2 at *
      obtain ⟨mn, imps, defs, mln, mco⟩ := m
      simp only [mdagg] at hmd
      simp only at x0 x1 x2 x3 x4
      generalize imps.length = il at *
      generalize defs.length = dl at *
      go_wp2_with fail
      refine hmd.mono ?_
      rintro e w5 ⟨rfl, c5, hS5⟩
      clear hmd x0 x1 x2 x3 x4
      go_wp2_with fail
      go_roundg (gk - 1)
      case measure => omega
      case rel => exact ⟨k + 1, M2, c5, by omega, by go_num, hS5, HN⟩
    · obtain rfl : k = l.length := by omega
      rw [List.drop_length] at HF
      have HF2 : Aside (M = FF) := by show _ = _; rw [HF.out]; simp [mdsT]
      have hq := hsr _ _ _ (HF2.out ▸ hS.pen)
      have HBw : Aside (Below w.heap.size w wr) := HB.out wr hS.wr
      have hkn : ¬ ((l.length : Nat) : Int) < (l.length : Int) := by omega
      clear HF hS
      go_wp2_with fail
      refine hq.mono ?_
      rintro e w6 ⟨rfl, hB6⟩
      go_wp2_with fail
      go_ret2
      exact ⟨rfl, HBw.out.trans (hB6.mono hpb)⟩
end Go.Proofs.YtpikfdkgblghhaaGreatDoor
namespace Go.Proofs.YtpikfdkgblghhaaGreatDoor
open Go.RowKit Pn
set_option maxRecDepth 100000
set_option linter.unusedSimpArgs false
set_option linter.unusedVariables false
namespace Pn
/-- Nodes as cells, one behind the other. -/
def nrow (l : List Tr.Nd) : List Value := (l.map Tr.ncells).flatten
theorem nrow_cons (x : Tr.Nd) (l : List Tr.Nd) : nrow (x :: l) = Tr.ncells x ++ nrow l := rfl
theorem nrow_at : ∀ (l : List Tr.Nd) (j : Nat) (x : Tr.Nd), l[j]? = some x → ∀ i u, (Tr.ncells x)[i]? = some u → (nrow l)[j * 8 + i]? = some u
  | [], j, x, h, _, _, _ => by simp at h
  | y :: l, 0, x, h, i, u, hu => by
    simp at h; subst h
    have hi : i < (Tr.ncells y).length := (List.getElem?_eq_some_iff.1 hu).1
    rw [nrow_cons, Nat.zero_mul, Nat.zero_add, List.getElem?_append_left hi]; exact hu
  | y :: l, j + 1, x, h, i, u, hu => by
    rw [nrow_cons, List.getElem?_append_right (by simp [Tr.ncells]; omega)]
    have := nrow_at l j x (by simpa using h) i u hu
    rw [← this]
    congr 1
    simp [Tr.ncells]; omega
/-- A list that is written out. -/
theorem nodes_lit (w : World) (l : List Tr.Nd) (t : TypeId) (fr : Nat × Nat) (cap : Nat) (hcap : l.length ≤ cap) : IsNodes (w.alloc (.cells (nrow l).toArray t fr)) (.slice (some ⟨w.heap.size, 0, none⟩) l.length cap) l := by
  refine .inr ⟨_, 0, cap, rfl, hcap, by simp, fun j x hx i u hu => ?_⟩
  rw [World.cell?_alloc_mark, List.getElem?_toArray, Nat.zero_add]
  exact nrow_at l j x hx i u hu
def k1 : Tr.T := .nd (nd 11 2 0 [] [] []) [.nd (nd 1 0 1 [] [] []) [], .nd (nd 11 2 0 [] [] []) [.nd (nd 1 0 2 [] [] []) [], .nd (nd 4 0 0 [120] [] []) []]]
def k1l : List Tr.Nd := [nd 11 2 0 [] [] [], nd 1 0 1 [] [] [], nd 11 2 0 [] [] [], nd 1 0 2 [] [] [], nd 4 0 0 [120] [] []]
def k2l : List Tr.Nd := [nd 1 0 0 [] [] []]
def k2 : Tr.T := .nd (nd 1 0 0 [] [] []) []
def kd : Df := ⟨S [120], false, S [105], k2l, 0, 0⟩
def km : Md := ⟨S [109], [], [kd], 0, 0⟩
theorem k1_flat : k1l = Tr.flat k1 := by kernel_rfl
theorem k2_flat : k2l = Tr.flat k2 := by kernel_rfl
theorem k1_wf : Tr.wf k1 := by simp [k1, Tr.wf, Tr.wfs, nd]
theorem k2_wf : Tr.wf k2 := by simp [k2, Tr.wf, Tr.wfs, nd]
theorem k1_chk : chkN k1l = (0, 0) := by kernel_rfl
theorem k1_fits : Fits k1l := ⟨by decide, by intro x hx; simp [k1l] at hx; rcases hx with rfl | rfl | rfl | rfl | rfl <;> decide, by intro x hx; simp [k1l] at hx; rcases hx with rfl | rfl | rfl | rfl | rfl <;> decide⟩
theorem k1_held : ∀ x ∈ k1l, Held x := by intro x hx; simp [k1l] at hx; rcases hx with rfl | rfl | rfl | rfl | rfl <;> exact ⟨⟨by decide, by decide⟩, by decide⟩
theorem km_mod : modN [km] = 0 := by kernel_rfl
theorem k0_chk : chkN [] = (17, 0) := by kernel_rfl
theorem k0_fits : Fits [] := ⟨by decide, (fun x hx => (by cases hx)), (fun x hx => (by cases hx))⟩
theorem k2_fits : Fits k2l := ⟨by decide, by intro x hx; simp [k2l] at hx; subst hx; decide, by intro x hx; simp [k2l] at hx; subst hx; decide⟩
theorem itoa_lo (n : Nat) (h : n < 10) : Lib.itoa (n : Int) = [UInt8.ofNat (48 + n)] := by rw [itoa_pos (by omega), Int.toNat_natCast, dec_small h]
theorem k1_pr : pr Lib.itoa k1 = [49, 32, 45, 32, 40, 50, 32, 45, 32, 120, 41] := by
  have h1 : Lib.itoa 1 = [49] := itoa_lo 1 (by decide)
  have h2 : Lib.itoa 2 = [50] := itoa_lo 2 (by decide)
  unfold k1
  simp [pr_nd, prs_cons, prs_nil, prK, pcA, pcB, pcC, askd, root, rk, br, nd, h1, h2, S_list]
theorem k2_pr : pr Lib.itoa k2 = [48] := by
  have h1 : Lib.itoa 0 = [48] := itoa_lo 0 (by decide)
  unfold k2
  simp [pr_nd, prs_nil, pcA, pcC, nd, h1]
theorem km_txt : mdsT [km] = [109, 111, 100, 117, 108, 101, 32, 109, 32, 123, 10, 32, 32, 108, 101, 116, 32, 120, 32, 58, 32, 105, 110, 116, 32, 61, 32, 48, 59, 10, 125, 10] := by
  have hn : note [105] = [32, 58, 32, 105, 110, 116] := note_enc .ti
  have ht : trT k2l = [48] := by rw [k2_flat, trT_flat k2_wf, k2_pr]
  simp [mdsT, mdT, imsT, dfsT, dfT, km, kd, S_list, hn, ht]
theorem km_fits : FitsM [km] := by
  have e : ∀ m ∈ [km], m = km := by intro m hm; simpa using hm
  have e2 : ∀ x ∈ km.defs, x = kd := by intro x hx; simpa [km] using hx
  refine ⟨by decide, fun m hm => ?_, fun m hm => ?_, fun m hm => ?_, fun m hm => ?_, fun m hm => ?_, fun m hm => ?_⟩
  all_goals rw [e m hm]
  · decide
  · decide
  · decide
  · intro x hx; simp [km] at hx
  · intro x hx; rw [e2 x hx]; decide
  · intro x hx; rw [e2 x hx]; exact k2_fits
theorem km_held : ∀ m ∈ [km], ∀ x ∈ m.defs, ∀ y ∈ x.tree, Held y := by
  intro m hm x hx y hy
  simp at hm; subst hm
  simp [km] at hx; subst hx
  simp [kd, k2l] at hy; subst hy
  exact ⟨⟨by decide, by decide⟩, by decide⟩
/-- Modules that are written out. -/
theorem mods_lit (w : World) : IsMods (((w.alloc (.cells (nrow k2l).toArray 52)).alloc (.cells (dfcells kd (.slice (some ⟨w.heap.size, 0, none⟩) 1 1)).toArray 54)).alloc (.cells (mdcells km (.slice none 0 0) (.slice (some ⟨w.heap.size + 1, 0, none⟩) 1 1)).toArray 58)) (.slice (some ⟨w.heap.size + 1 + 1, 0, none⟩) 1 1) [km] := by
  have hb2 := heap_alloc_new ((w.alloc (.cells (nrow k2l).toArray 52)).alloc (.cells (dfcells kd (.slice (some ⟨w.heap.size, 0, none⟩) 1 1)).toArray 54)) (.cells (mdcells km (.slice none 0 0) (.slice (some ⟨w.heap.size + 1, 0, none⟩) 1 1)).toArray 58)
  have hs2 : ((w.alloc (.cells (nrow k2l).toArray 52)).alloc (.cells (dfcells kd (.slice (some ⟨w.heap.size, 0, none⟩) 1 1)).toArray 54)).heap.size = w.heap.size + 1 + 1 := by simp
  rw [hs2] at hb2
  have hb1 := heap_alloc_new (w.alloc (.cells (nrow k2l).toArray 52)) (.cells (dfcells kd (.slice (some ⟨w.heap.size, 0, none⟩) 1 1)).toArray 54)
  have hs1 : (w.alloc (.cells (nrow k2l).toArray 52)).heap.size = w.heap.size + 1 := by simp
  rw [hs1] at hb1
  have hl := nodes_lit w k2l 52 (0, 0) 1 (by decide)
  have hl2 := (hl.below ((Below.refl _ _).alloc (Nat.le_refl _) (.cells (dfcells kd (.slice (some ⟨w.heap.size, 0, none⟩) 1 1)).toArray 54)))
  have hl3 := hl2.below ((Below.refl _ _).alloc (Nat.le_refl _) (.cells (mdcells km (.slice none 0 0) (.slice (some ⟨w.heap.size + 1, 0, none⟩) 1 1)).toArray 58))
  generalize hW2 : ((w.alloc (.cells (nrow k2l).toArray 52)).alloc (.cells (dfcells kd (.slice (some ⟨w.heap.size, 0, none⟩) 1 1)).toArray 54)) = W2 at *
  have hbd : (W2.alloc (.cells (mdcells km (.slice none 0 0) (.slice (some ⟨w.heap.size + 1, 0, none⟩) 1 1)).toArray 58)).heap[w.heap.size + 1]? = some (.cells (dfcells kd (.slice (some ⟨w.heap.size, 0, none⟩) 1 1)).toArray 54 (0, 0)) := by
    rw [Below.heap_alloc _ _ _ (by omega)]
    exact hb1
  generalize hW3 : W2.alloc (.cells (mdcells km (.slice none 0 0) (.slice (some ⟨w.heap.size + 1, 0, none⟩) 1 1)).toArray 58) = W3 at *
  have hsz : W3.heap.size = w.heap.size + 1 + 1 + 1 := by rw [← hW3]; simp; omega
  refine .inr ⟨w.heap.size + 1 + 1, 0, 1, rfl, by decide, by omega, fun j x hx => ?_⟩
  obtain ⟨rfl, rfl⟩ : j = 0 ∧ x = km := by
    cases j with
    | zero => simpa using hx.symm
    | succ j => simp at hx
  refine ⟨_, ⟨.slice none 0 0, .slice (some ⟨w.heap.size + 1, 0, none⟩) 1 1, rfl, .inl ⟨rfl, _, _, rfl⟩, .inr ⟨w.heap.size + 1, 0, 1, rfl, by decide, by omega, fun j x hx => ?_⟩⟩, fun i u hu => ?_⟩
  · obtain ⟨rfl, rfl⟩ : j = 0 ∧ x = kd := by
      cases j with
      | zero => simpa [km] using hx.symm
      | succ j => simp [km] at hx
    refine ⟨_, ⟨.slice (some ⟨w.heap.size, 0, none⟩) 1 1, rfl, hl3⟩, fun i u hu => ?_⟩
    rw [(block_cells hbd).1]
    simpa using hu
  · rw [(block_cells hb2).1]
    simpa using hu
end Pn

set_option maxHeartbeats 4000000 in
theorem works7_any (w : World) (hT : Tab w) : Calls Tryz.prog 7 #[] w fun e w' => e = .returned (.bool true) ∧ Below w.heap.size w w' := by
  go_enter Tryz.func7, Tryz.ntmps7
  go_wp2_with fail
  generalize hW : w.alloc _ = W
  have hBW : Below w.heap.size w W := by rw [← hW]; exact (Below.refl _ _).alloc (Nat.le_refl _) _
  have hl1 : IsNodes W (.slice (some ⟨w.heap.size, 0, none⟩) 5 5) k1l := by rw [← hW]; exact nodes_lit w k1l 52 (0, 0) 5 (by decide)
  clear hW
  have hE1 := pnExpr_ok k1l k1_fits k1_held _ W hl1 (hT.below hBW) (by rw [k1_chk]) k1 k1_wf k1_flat
  rw [k1_pr] at hE1
  have hE1' : Calls Tryz.prog 9 #[.slice (some ⟨w.heap.size, 0, none⟩) 5 5] W fun e w' => e = .returned (.tuple #[.string ⟨#[49, 32, 45, 32, 40, 50, 32, 45, 32, 120, 41]⟩, .int .i64 0]) ∧ Below W.heap.size W w' := hE1
  refine hE1'.mono ?_
  rintro e w1 ⟨rfl, hB1⟩
  have HB1 : Aside (Below w.heap.size w w1) := hBW.trans (hB1.mono hBW.size)
  clear hE1 hE1' hl1 hB1 hBW
  go_wp2_with fail
  have hM := mods_lit w1
  have hBm : Below w1.heap.size w1 (((w1.alloc (.cells (nrow k2l).toArray 52)).alloc (.cells (dfcells kd (.slice (some ⟨w1.heap.size, 0, none⟩) 1 1)).toArray 54)).alloc (.cells (mdcells km (.slice none 0 0) (.slice (some ⟨w1.heap.size + 1, 0, none⟩) 1 1)).toArray 58)) := ((((Below.refl _ _).alloc (Nat.le_refl _) _).alloc (by simp) _).alloc (by simp; omega) _)
  have hMm := pnModules_ok [km] km_fits km_held _ _ hM (hT.below (HB1.out.trans (hBm.mono HB1.out.size))) km_mod
  rw [km_txt] at hMm
  have hMm' : Calls Tryz.prog 15 #[.slice (some ⟨w1.heap.size + 1 + 1, 0, none⟩) 1 1] (((w1.alloc (.cells (nrow k2l).toArray 52)).alloc (.cells (dfcells kd (.slice (some ⟨w1.heap.size, 0, none⟩) 1 1)).toArray 54)).alloc (.cells (mdcells km (.slice none 0 0) (.slice (some ⟨w1.heap.size + 1, 0, none⟩) 1 1)).toArray 58)) fun e w' => e = .returned (.tuple #[.string ⟨#[109, 111, 100, 117, 108, 101, 32, 109, 32, 123, 10, 32, 32, 108, 101, 116, 32, 120, 32, 58, 32, 105, 110, 116, 32, 61, 32, 48, 59, 10, 125, 10]⟩, .int .i64 0]) ∧ Below w1.heap.size w1 w' := hMm.mono fun e w' ⟨h1, h2⟩ => ⟨h1, hBm.trans (h2.mono hBm.size)⟩
  clear hMm hM hBm
  refine hMm'.mono ?_
  rintro e w2 ⟨rfl, hB2⟩
  have HB2 : Aside (Below w.heap.size w w2) := HB1.out.trans (hB2.mono HB1.out.size)
  clear hMm' hB2
  have hE3 := pnExpr_bad [] k0_fits (.slice none 0 0) w2 (.inl ⟨rfl, _, _, rfl⟩) (by rw [k0_chk]; decide)
  rw [k0_chk] at hE3
  have hE3' : Calls Tryz.prog 9 #[.slice none 0 0] w2 fun e w' => e = .returned (.tuple #[.string ⟨#[]⟩, .int .i64 17]) ∧ Below w2.heap.size w2 w' := hE3
  clear hE3
  go_wp2_with fail
  refine hE3'.mono ?_
  rintro e w3 ⟨rfl, hB3⟩
  have HB3 : Aside (Below w.heap.size w w3) := HB2.out.trans (hB3.mono HB2.out.size)
  clear hE3' hB3
  go_wp2_with fail
  go_ret
  exact ⟨rfl, HB3.out⟩
end Go.Proofs.YtpikfdkgblghhaaGreatDoor
