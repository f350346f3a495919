/- The listed tables of package check, and one start in which they lie so. -/
import Derived.Test.YthihnkgjkmaplaaDoorUat
import Derived.Shelf.Vars
import Derived.ProofKit
import Derived.OpenShut
import Derived.LaidMore
import Derived.Lay
import Derived.SevenTiedAt
import Derived.Stop.Joined
import Derived.Stop.LaidErr
import Derived.SizedLaws
namespace Go.Proofs.YthihnkgjkmaplaaDoor
open Go.ChangeShapes Go.WideShapes Go.ChangeAt Go.RowKit
set_option maxRecDepth 100000

theorem ownKnobs : ownKnob Tryd.prog.godebug = none := by kernel_rfl
theorem laidOutAll : laidOutB Tryd.prog = true := by kernel_rfl
/-- As the library's wrap for a condition on the world, with the world's shape handed on. -/
theorem handed_both {H : Type} {enc : TypeId × Value → H} {a : Assume} {C : Checked} {os : Os} {f : FuncId} {fn : Func} {s : ChangeSpec} {conds : List PathCond} {apart fresh handsOn again : Bool} {X : World → Array Value → Prop}
    (hX : ∀ (w w' : World) (args : Array Value), w.heap = w'.heap → X w args → X w' args)
    (own : ownKnob C.prog.godebug = none) (started : os.Started) (noInit : C.prog.inits.idxOf? f = none) (hfn : C.prog.funcs[f]? = some fn)
    (witness : ∃ (w : World) (tape : Tape) (i : Input), w.os = os ∧ (w.forCall tape i).Shaped C.prog ∧ i.vars = [] ∧ Input.okWide C.prog (w.forCall tape i) .any w.heap.size f i ∧
      ((s.pre enc C.prog fn conds apart (w.forCall tape i).memory i.args ∧ X (w.forCall tape i).memory i.args) ∧ sizedMet enc C.prog fn (OpenSpec.ofChange s) apart (w.forCall tape i).memory i.args) ∧ a.holds C.prog (lone (Frame.enter C.prog f i.args .normal) [] (w.forCall tape i)))
    (contract : ∀ (W : World) (base : Nat) (args : Array Value) (ds gs : List (DataW H)) (before : List MemPlace),
      (∀ (j : Nat) t v, fn.params[j]? = some t → args[j]? = some v → Value.okWide C.prog W .any base t v) →
      DataW.Whole enc C.prog fn.params.toList s.vars apart W args.toList ds gs before →
      (DataW.weightsEach C.prog (fn.params.toList ++ s.plain.varTypes C.prog) (ds ++ gs)).all (· ≤ reachBytes) = true → X W args → W.ShapedOpen C.prog →
      Calls C.prog f args W fun e W' => ∃ v, e = .returned v ∧ s.post enc C.prog fn apart fresh handsOn again W args v W') :
    ReturnsInHanded a C os f .any (fun w args => (s.pre enc C.prog fn conds apart w args ∧ X w args) ∧ sizedMet enc C.prog fn (OpenSpec.ofChange s) apart w args) (s.post enc C.prog fn apart fresh handsOn again) := by
  refine returnsInHanded_of_calls own started noInit witness ?_
  intro w tape i _ hsh _ hok hpre _
  obtain ⟨_, _, _, g, hg, _, _, _, _, hval⟩ := hok
  have e : g = fn := Option.some.inj (hg.symm.trans hfn)
  subst e
  obtain ⟨⟨⟨ds, gs, before, hw, _⟩, hx⟩, hz⟩ := hpre
  have hw2 := DataW.Whole.of_heap (w' := w.forCall tape i) (by rfl) hw
  refine (contract (w.forCall tape i) w.heap.size i.args ds gs before hval hw2 (hz.weights hw) (hX _ _ _ (by rfl) hx) hsh).mono fun e W' ⟨v, he, hp⟩ => ?_
  subst he
  exact ChangeSpec.post_blind hp

/-- The four variables that the statements of this seat list. -/
abbrev laidAll : List (String × DataW Unit) := [("unicode/utf8.acceptRanges", Rows.laid_unicode_utf8_acceptRanges), ("culprit/check.operations", Rows.laid_culprit_check_operations), ("culprit/check.uses", Rows.laid_culprit_check_uses), ("unicode/utf8.first", Rows.laid_unicode_utf8_first)]
theorem laid_met (os : Os) (args : Array Value) : laidMetH Tryd.prog laidAll ((World.laidAll Tryd.prog os laidAll).forCall (fun _ _ => 0) ⟨#[], args, []⟩).memory := by
  rw [MakeChecks.laidMetH_plain _ _ _ (by kernel_rfl)]
  exact laidMet_laidAll _ (by kernel_rfl) (by kernel_rfl)

def fieldsOf (P : Program) (t : TypeId) : List (Nat × Nat) := match P.underlying t with
  | some (.struct fs) => fs.toList.map fun f => (f.type, f.offset)
  | _ => []
theorem fields_some {P : Program} {t : TypeId} {l : List (Nat × Nat)} {x : Nat × Nat} (h : fieldsOf P t = x :: l) : ∃ fs, P.underlying t = some (.struct fs) ∧ fs.toList.map (fun f => (f.type, f.offset)) = x :: l := by
  unfold fieldsOf at h
  split at h
  · exact ⟨_, by assumption, h⟩
  · simp at h
theorem usF : fieldsOf Tryd.prog 94 = [(3, 0), (5, 1), (9, 2)] := by kernel_rfl
theorem opF : fieldsOf Tryd.prog 99 = [(9, 0), (9, 1)] := by kernel_rfl
theorem gUs : Tryd.prog.globalNamed "culprit/check.uses" = some 0 := by kernel_rfl
theorem gOp : Tryd.prog.globalNamed "culprit/check.operations" = some 1 := by kernel_rfl
theorem gUsT : (Tryd.prog.globals[0]?).map (·.type) = some 95 := by kernel_rfl
theorem gOpT : (Tryd.prog.globals[1]?).map (·.type) = some 100 := by kernel_rfl
theorem usTy : Tryd.prog.underlying 95 = some (.array 29 94) := by kernel_rfl
theorem opTy : Tryd.prog.underlying 100 = some (.array 18 99) := by kernel_rfl
theorem usD : (Rows.laid_culprit_check_uses : DataW Unit) = .agg (usesL.map fun e => .agg [.lit (.int .i64 (e.1 : Int)), .lit (.int .u8 (e.2.1.toNat : Int)), .lit (.string e.2.2)]) := rfl
theorem opD : (Rows.laid_culprit_check_operations : DataW Unit) = .agg (opsL.map fun e => .agg [.lit (.string e.1), .lit (.string e.2)]) := rfl
theorem agg_inj {H : Type} {a b : List (DataW H)} (h : DataW.agg a = DataW.agg b) : a = b := by injection h
theorem cut_cell {cs : List Value} {k : Nat} {l : List Value} (h : (cs.drop k).take l.length = l) {i : Nat} {v : Value} (hv : l[i]? = some v) : cs[k + i]? = some v := by
  have hi : i < l.length := (List.getElem?_eq_some_iff.1 hv).1
  have : ((cs.drop k).take l.length)[i]? = l[i]? := by rw [h]
  rw [List.getElem?_take, if_pos hi, List.getElem?_drop] at this
  rw [this, hv]

set_option maxHeartbeats 1000000 in
theorem uses_of_laid {r : List (String × DataW Unit)} {W : World} (h : laidMet Tryd.prog (("culprit/check.uses", Rows.laid_culprit_check_uses) :: r) W) :
    ∀ (k : Nat) e, usesL[k]? = some e → W.cell? ⟨0, k * 3, none⟩ = some (.int .i64 (e.1 : Int)) ∧ W.cell? ⟨0, k * 3 + 1, none⟩ = some (.int .u8 (e.2.1.toNat : Int)) ∧ W.cell? ⟨0, k * 3 + 2, none⟩ = some (.string (S e.2.2)) := by
  obtain ⟨ps, ⟨g0, t0, cs0, f0, p0, q0, hg0, ht0, hv0, htr, _⟩, _⟩ := h
  obtain rfl := Option.some.inj (gUs.symm.trans hg0)
  obtain rfl := Option.some.inj (gUsT.symm.trans ht0)
  obtain ⟨xs, m, _, hd, _, hxl, hel⟩ := DataW.trod_array usTy htr
  rw [usD] at hd
  have hd1 := agg_inj (Prod.mk.inj hd).1
  rw [show Tryd.prog.cellsOf 94 = 3 by kernel_rfl] at hel
  intro k e hk
  have hk29 : k < 29 := (List.getElem?_eq_some_iff.1 hk).1
  have he := hel k hk29
  obtain ⟨y, hy⟩ : ∃ y, xs[k]? = some y := ⟨xs[k], List.getElem?_eq_getElem (by omega)⟩
  rw [hy] at he
  have hmap : (usesL.map fun e => (DataW.agg [.lit (.int .i64 (e.1 : Int)), .lit (.int .u8 (e.2.1.toNat : Int)), .lit (.string e.2.2)] : DataW Unit))[k]? = (xs.map (·.1))[k]? := by rw [hd1]
  rw [List.getElem?_map, List.getElem?_map, hk, hy] at hmap
  simp only [Option.map_some, Option.some.injEq] at hmap
  obtain ⟨fs, hu, hfs⟩ := fields_some usF
  obtain ⟨zs, m2, _, hz, hlen, hzl, hf⟩ := DataW.trod_struct hu he
  rw [show Tryd.prog.cellsOf 94 = 3 by kernel_rfl] at hlen
  have c3 : Tryd.prog.cellsOf 3 = 1 := by kernel_rfl
  have c5 : Tryd.prog.cellsOf 5 = 1 := by kernel_rfl
  have c9 : Tryd.prog.cellsOf 9 = 1 := by kernel_rfl
  have u3 : Tryd.prog.underlying 3 = some (.int .i64) := by kernel_rfl
  have u5 : Tryd.prog.underlying 5 = some (.int .u8) := by kernel_rfl
  have u9 : Tryd.prog.underlying 9 = some .string := by kernel_rfl
  obtain ⟨fl⟩ := fs
  simp only at hfs
  generalize hcs : (cs0.toList.drop (k * 3)).take 3 = cs at hlen hf
  match fl, hfs with
  | [f0', f1, f2], hfs =>
    simp only [List.map_cons, List.map_nil, List.cons.injEq, Prod.mk.injEq, and_true] at hfs
    obtain ⟨⟨t0, o0⟩, ⟨t1, o1⟩, ⟨t2, o2⟩⟩ := hfs
    match zs, hzl, cs, hlen with
    | [y0, y1, y2], _, [v0, v1, v2], _ =>
      have g0 := hf 0 f0' rfl
      have g1 := hf 1 f1 rfl
      have g2 := hf 2 f2 rfl
      simp only [t0, o0, c3, t1, o1, c5, t2, o2, c9] at g0 g1 g2
      simp only [List.drop_zero, List.drop_succ_cons, List.take_succ_cons, List.take_zero, List.getElem?_cons_zero, List.getElem?_cons_succ, List.take_nil] at g0 g1 g2
      obtain ⟨i0, h0, e0, _⟩ := DataW.trod_int u3 g0
      obtain ⟨i1, h1, e1, _⟩ := DataW.trod_int u5 g1
      obtain ⟨s2, h2, e2, _⟩ := DataW.trod_string u9 g2
      rw [hz] at hmap
      simp only [List.map_cons, List.map_nil, e0, e1, e2] at hmap
      have hm := agg_inj hmap
      simp only [List.cons.injEq, DataW.lit.injEq, Lit.int.injEq, Lit.string.injEq, true_and, and_true] at hm
      obtain ⟨a0, a1, a2⟩ := hm
      cases h0; cases h1; cases h2
      have hcell := fun i => World.var?_cell gUs hv0 (k * 3 + i)
      have hcut := fun (i : Nat) v hv => cut_cell (l := [.int .i64 i0, .int .u8 i1, .string s2]) hcs (i := i) (v := v) hv
      refine ⟨?_, ?_, ?_⟩
      · have := hcell 0; rw [Nat.add_zero] at this; rw [this, ← Array.getElem?_toList, show k * 3 = k * 3 + 0 from rfl, hcut 0 _ rfl, a0]
      · rw [hcell 1, ← Array.getElem?_toList, hcut 1 _ rfl, a1]
      · rw [hcell 2, ← Array.getElem?_toList, hcut 2 _ rfl, a2]; rfl
set_option maxHeartbeats 1000000 in
theorem ops_of_laid {r : List (String × DataW Unit)} {W : World} (h : laidMet Tryd.prog (("culprit/check.operations", Rows.laid_culprit_check_operations) :: r) W) :
    ∀ (k : Nat) e, opsL[k]? = some e → W.cell? ⟨1, k * 2, none⟩ = some (.string (S e.1)) ∧ W.cell? ⟨1, k * 2 + 1, none⟩ = some (.string (S e.2)) := by
  obtain ⟨ps, ⟨g0, t0, cs0, f0, p0, q0, hg0, ht0, hv0, htr, _⟩, _⟩ := h
  obtain rfl := Option.some.inj (gOp.symm.trans hg0)
  obtain rfl := Option.some.inj (gOpT.symm.trans ht0)
  obtain ⟨xs, m, _, hd, _, hxl, hel⟩ := DataW.trod_array opTy htr
  rw [opD] at hd
  have hd1 := agg_inj (Prod.mk.inj hd).1
  rw [show Tryd.prog.cellsOf 99 = 2 by kernel_rfl] at hel
  intro k e hk
  have hk18 : k < 18 := (List.getElem?_eq_some_iff.1 hk).1
  have he := hel k hk18
  obtain ⟨y, hy⟩ : ∃ y, xs[k]? = some y := ⟨xs[k], List.getElem?_eq_getElem (by omega)⟩
  rw [hy] at he
  have hmap : (opsL.map fun e => (DataW.agg [.lit (.string e.1), .lit (.string e.2)] : DataW Unit))[k]? = (xs.map (·.1))[k]? := by rw [hd1]
  rw [List.getElem?_map, List.getElem?_map, hk, hy] at hmap
  simp only [Option.map_some, Option.some.injEq] at hmap
  obtain ⟨fs, hu, hfs⟩ := fields_some opF
  obtain ⟨zs, m2, _, hz, hlen, hzl, hf⟩ := DataW.trod_struct hu he
  rw [show Tryd.prog.cellsOf 99 = 2 by kernel_rfl] at hlen
  have c9 : Tryd.prog.cellsOf 9 = 1 := by kernel_rfl
  have u9 : Tryd.prog.underlying 9 = some .string := by kernel_rfl
  obtain ⟨fl⟩ := fs
  simp only at hfs
  generalize hcs : (cs0.toList.drop (k * 2)).take 2 = cs at hlen hf
  match fl, hfs with
  | [f0', f1], hfs =>
    simp only [List.map_cons, List.map_nil, List.cons.injEq, Prod.mk.injEq, and_true] at hfs
    obtain ⟨⟨t0, o0⟩, ⟨t1, o1⟩⟩ := hfs
    match zs, hzl, cs, hlen with
    | [y0, y1], _, [v0, v1], _ =>
      have g0 := hf 0 f0' rfl
      have g1 := hf 1 f1 rfl
      simp only [t0, o0, t1, o1, c9] at g0 g1
      simp only [List.drop_zero, List.drop_succ_cons, List.take_succ_cons, List.take_zero, List.getElem?_cons_zero, List.getElem?_cons_succ, List.take_nil] at g0 g1
      obtain ⟨s0, h0, e0, _⟩ := DataW.trod_string u9 g0
      obtain ⟨s1, h1, e1, _⟩ := DataW.trod_string u9 g1
      rw [hz] at hmap
      simp only [List.map_cons, List.map_nil, e0, e1] at hmap
      have hm := agg_inj hmap
      simp only [List.cons.injEq, DataW.lit.injEq, Lit.string.injEq, and_true] at hm
      obtain ⟨a0, a1⟩ := hm
      cases h0; cases h1
      have hcell := fun i => World.var?_cell gOp hv0 (k * 2 + i)
      have hcut := fun (i : Nat) v hv => cut_cell (l := [.string s0, .string s1]) hcs (i := i) (v := v) hv
      refine ⟨?_, ?_⟩
      · have := hcell 0; rw [Nat.add_zero] at this; rw [this, ← Array.getElem?_toList, show k * 2 = k * 2 + 0 from rfl, hcut 0 _ rfl, a0]; rfl
      · rw [hcell 1, ← Array.getElem?_toList, hcut 1 _ rfl, a1]; rfl
theorem laid_lt {P : Program} {n : String} {d : DataW Unit} {r : List (String × DataW Unit)} {W : World} {g : Nat} (h : laidMet P ((n, d) :: r) W) (hg : P.globalNamed n = some g) : g < W.heap.size := by
  obtain ⟨ps, ⟨g0, t0, cs0, f0, p0, q0, hg0, ht0, hv0, _⟩, _⟩ := h
  obtain rfl := Option.some.inj (hg.symm.trans hg0)
  unfold World.var? at hv0
  rw [hg0] at hv0
  rcases Nat.lt_or_ge g W.heap.size with h' | h'
  · exact h'
  · simp [Array.getElem?_eq_none h'] at hv0
theorem gAR : Tryd.prog.globalNamed "unicode/utf8.acceptRanges" = some 4 := by kernel_rfl
theorem all_of_laid {W : World} (h : laidMetH Tryd.prog laidAll W) (hs : W.ShapedOpen Tryd.prog) : HasG W ∧ 5 ≤ W.heap.size := by
  rw [MakeChecks.laidMetH_plain _ _ _ (by kernel_rfl)] at h
  refine ⟨⟨?_, uses_of_laid h.tail.tail, ops_of_laid h.tail⟩, laid_lt h gAR⟩
  exact cell_of_shapedOpen_int (t := 3) (zero := #[.int .i64 0]) hs (of_decide_eq_true (by kernel_rfl)) (by kernel_rfl) rfl (by kernel_rfl) (by kernel_rfl) (by kernel_rfl)
end Go.Proofs.YthihnkgjkmaplaaDoor
