/- A case that is handed in, opened, with the lengths of all its texts. -/
import Derived.Test.YthihnkgjkmaplaaGreatDoorUao
import Derived.Shelf.Vars
import Derived.ProofKit
import Derived.OpenShut
import Derived.LaidMore
import Derived.Lay
import Derived.SevenTiedAt
import Derived.Stop.Joined
import Derived.Stop.LaidErr
import Derived.SizedLaws
import Derived.Test.YthihnkgjkmaplaaGreatDoorUbb
import Derived.Test.YthihnkgjkmaplaaGreatDoorUbj
import Derived.Deep.Strs
import Derived.Deep.Slices
import Derived.ChangeArms
import Derived.RowKit
namespace Go.Proofs.YthihnkgjkmaplaaGreatDoor
open Go.ChangeShapes Go.WideShapes Go.ChangeAt Go.RowKit
set_option maxRecDepth 100000

theorem ownKnobs : ownKnob Tryz.prog.godebug = none := by kernel_rfl
theorem laidOutAll : laidOutB Tryz.prog = true := by kernel_rfl
/-- As the library's wrap for a condition on the world, with the world's shape handed on. -/
theorem handed_both {H : Type} {enc : TypeId × Value → H} {a : Assume} {C : Checked} {os : Os} {f : FuncId} {fn : Func} {s : ChangeSpec} {conds : List PathCond} {apart fresh handsOn again : Bool} {X : World → Array Value → Prop}
    (hX : ∀ (w w' : World) (args : Array Value), w.heap = w'.heap → X w args → X w' args)
    (own : ownKnob C.prog.godebug = none) (started : os.Started) (noInit : C.prog.inits.idxOf? f = none) (hfn : C.prog.funcs[f]? = some fn)
    (witness : ∃ (w : World) (tape : Tape) (i : Input), w.os = os ∧ (w.forCall tape i).Shaped C.prog ∧ i.vars = [] ∧ Input.okWide C.prog (w.forCall tape i) .any w.heap.size f i ∧
      ((s.pre enc C.prog fn conds apart (w.forCall tape i).memory i.args ∧ X (w.forCall tape i).memory i.args) ∧ sizedMet enc C.prog fn (OpenSpec.ofChange s) apart (w.forCall tape i).memory i.args) ∧ a.holds C.prog (lone (Frame.enter C.prog f i.args .normal) [] (w.forCall tape i)))
    (contract : ∀ (W : World) (base : Nat) (args : Array Value) (ds gs : List (DataW H)) (before : List MemPlace),
      (∀ (j : Nat) t v, fn.params[j]? = some t → args[j]? = some v → Value.okWide C.prog W .any base t v) →
      DataW.Whole enc C.prog fn.params.toList s.vars apart W args.toList ds gs before →
      (DataW.weightsEach C.prog (fn.params.toList ++ s.plain.varTypes C.prog) (ds ++ gs)).all (· ≤ reachBytes) = true → X W args → W.ShapedOpen C.prog →
      Calls C.prog f args W fun e W' => ∃ v, e = .returned v ∧ s.post enc C.prog fn apart fresh handsOn again W args v W') :
    ReturnsInHanded a C os f .any (fun w args => (s.pre enc C.prog fn conds apart w args ∧ X w args) ∧ sizedMet enc C.prog fn (OpenSpec.ofChange s) apart w args) (s.post enc C.prog fn apart fresh handsOn again) := by
  refine returnsInHanded_of_calls own started noInit witness ?_
  intro w tape i _ hsh _ hok hpre _
  obtain ⟨_, _, _, g, hg, _, _, _, _, hval⟩ := hok
  have e : g = fn := Option.some.inj (hg.symm.trans hfn)
  subst e
  obtain ⟨⟨⟨ds, gs, before, hw, _⟩, hx⟩, hz⟩ := hpre
  have hw2 := DataW.Whole.of_heap (w' := w.forCall tape i) (by rfl) hw
  refine (contract (w.forCall tape i) w.heap.size i.args ds gs before hval hw2 (hz.weights hw) (hX _ _ _ (by rfl) hx) hsh).mono fun e W' ⟨v, he, hp⟩ => ?_
  subst he
  exact ChangeSpec.post_blind hp

/-- The four variables that the statements of this seat list. -/
abbrev laidAll : List (String × DataW Unit) := [("unicode/utf8.acceptRanges", Rows.laid_unicode_utf8_acceptRanges), ("culprit/check.operations", Rows.laid_culprit_check_operations), ("culprit/check.uses", Rows.laid_culprit_check_uses), ("unicode/utf8.first", Rows.laid_unicode_utf8_first)]
theorem laid_met (os : Os) (args : Array Value) : laidMetH Tryz.prog laidAll ((World.laidAll Tryz.prog os laidAll).forCall (fun _ _ => 0) ⟨#[], args, []⟩).memory := by
  rw [MakeChecks.laidMetH_plain _ _ _ (by kernel_rfl)]
  exact laidMet_laidAll _ (by kernel_rfl) (by kernel_rfl)

def fieldsOf (P : Program) (t : TypeId) : List (Nat × Nat) := match P.underlying t with
  | some (.struct fs) => fs.toList.map fun f => (f.type, f.offset)
  | _ => []
theorem fields_some {P : Program} {t : TypeId} {l : List (Nat × Nat)} {x : Nat × Nat} (h : fieldsOf P t = x :: l) : ∃ fs, P.underlying t = some (.struct fs) ∧ fs.toList.map (fun f => (f.type, f.offset)) = x :: l := by
  unfold fieldsOf at h
  split at h
  · exact ⟨_, by assumption, h⟩
  · simp at h
theorem usF : fieldsOf Tryz.prog 150 = [(3, 0), (5, 1), (9, 2)] := by kernel_rfl
theorem opF : fieldsOf Tryz.prog 155 = [(9, 0), (9, 1)] := by kernel_rfl
theorem gUs : Tryz.prog.globalNamed "culprit/check.uses" = some 0 := by kernel_rfl
theorem gOp : Tryz.prog.globalNamed "culprit/check.operations" = some 1 := by kernel_rfl
theorem gUsT : (Tryz.prog.globals[0]?).map (·.type) = some 151 := by kernel_rfl
theorem gOpT : (Tryz.prog.globals[1]?).map (·.type) = some 156 := by kernel_rfl
theorem usTy : Tryz.prog.underlying 151 = some (.array 29 150) := by kernel_rfl
theorem opTy : Tryz.prog.underlying 156 = some (.array 18 155) := by kernel_rfl
theorem usD : (Rows.laid_culprit_check_uses : DataW Unit) = .agg (usesL.map fun e => .agg [.lit (.int .i64 (e.1 : Int)), .lit (.int .u8 (e.2.1.toNat : Int)), .lit (.string e.2.2)]) := rfl
theorem opD : (Rows.laid_culprit_check_operations : DataW Unit) = .agg (opsL.map fun e => .agg [.lit (.string e.1), .lit (.string e.2)]) := rfl
theorem agg_inj {H : Type} {a b : List (DataW H)} (h : DataW.agg a = DataW.agg b) : a = b := by injection h
theorem cut_cell {cs : List Value} {k : Nat} {l : List Value} (h : (cs.drop k).take l.length = l) {i : Nat} {v : Value} (hv : l[i]? = some v) : cs[k + i]? = some v := by
  have hi : i < l.length := (List.getElem?_eq_some_iff.1 hv).1
  have : ((cs.drop k).take l.length)[i]? = l[i]? := by rw [h]
  rw [List.getElem?_take, if_pos hi, List.getElem?_drop] at this
  rw [this, hv]

set_option maxHeartbeats 1000000 in
theorem uses_of_laid {r : List (String × DataW Unit)} {W : World} (h : laidMet Tryz.prog (("culprit/check.uses", Rows.laid_culprit_check_uses) :: r) W) :
    ∀ (k : Nat) e, usesL[k]? = some e → W.cell? ⟨0, k * 3, none⟩ = some (.int .i64 (e.1 : Int)) ∧ W.cell? ⟨0, k * 3 + 1, none⟩ = some (.int .u8 (e.2.1.toNat : Int)) ∧ W.cell? ⟨0, k * 3 + 2, none⟩ = some (.string (S e.2.2)) := by
  obtain ⟨ps, ⟨g0, t0, cs0, f0, p0, q0, hg0, ht0, hv0, htr, _⟩, _⟩ := h
  obtain rfl := Option.some.inj (gUs.symm.trans hg0)
  obtain rfl := Option.some.inj (gUsT.symm.trans ht0)
  obtain ⟨xs, m, _, hd, _, hxl, hel⟩ := DataW.trod_array usTy htr
  rw [usD] at hd
  have hd1 := agg_inj (Prod.mk.inj hd).1
  rw [show Tryz.prog.cellsOf 150 = 3 by kernel_rfl] at hel
  intro k e hk
  have hk29 : k < 29 := (List.getElem?_eq_some_iff.1 hk).1
  have he := hel k hk29
  obtain ⟨y, hy⟩ : ∃ y, xs[k]? = some y := ⟨xs[k], List.getElem?_eq_getElem (by omega)⟩
  rw [hy] at he
  have hmap : (usesL.map fun e => (DataW.agg [.lit (.int .i64 (e.1 : Int)), .lit (.int .u8 (e.2.1.toNat : Int)), .lit (.string e.2.2)] : DataW Unit))[k]? = (xs.map (·.1))[k]? := by rw [hd1]
  rw [List.getElem?_map, List.getElem?_map, hk, hy] at hmap
  simp only [Option.map_some, Option.some.injEq] at hmap
  obtain ⟨fs, hu, hfs⟩ := fields_some usF
  obtain ⟨zs, m2, _, hz, hlen, hzl, hf⟩ := DataW.trod_struct hu he
  rw [show Tryz.prog.cellsOf 150 = 3 by kernel_rfl] at hlen
  have c3 : Tryz.prog.cellsOf 3 = 1 := by kernel_rfl
  have c5 : Tryz.prog.cellsOf 5 = 1 := by kernel_rfl
  have c9 : Tryz.prog.cellsOf 9 = 1 := by kernel_rfl
  have u3 : Tryz.prog.underlying 3 = some (.int .i64) := by kernel_rfl
  have u5 : Tryz.prog.underlying 5 = some (.int .u8) := by kernel_rfl
  have u9 : Tryz.prog.underlying 9 = some .string := by kernel_rfl
  obtain ⟨fl⟩ := fs
  simp only at hfs
  generalize hcs : (cs0.toList.drop (k * 3)).take 3 = cs at hlen hf
  match fl, hfs with
  | [f0', f1, f2], hfs =>
    simp only [List.map_cons, List.map_nil, List.cons.injEq, Prod.mk.injEq, and_true] at hfs
    obtain ⟨⟨t0, o0⟩, ⟨t1, o1⟩, ⟨t2, o2⟩⟩ := hfs
    match zs, hzl, cs, hlen with
    | [y0, y1, y2], _, [v0, v1, v2], _ =>
      have g0 := hf 0 f0' rfl
      have g1 := hf 1 f1 rfl
      have g2 := hf 2 f2 rfl
      simp only [t0, o0, c3, t1, o1, c5, t2, o2, c9] at g0 g1 g2
      simp only [List.drop_zero, List.drop_succ_cons, List.take_succ_cons, List.take_zero, List.getElem?_cons_zero, List.getElem?_cons_succ, List.take_nil] at g0 g1 g2
      obtain ⟨i0, h0, e0, _⟩ := DataW.trod_int u3 g0
      obtain ⟨i1, h1, e1, _⟩ := DataW.trod_int u5 g1
      obtain ⟨s2, h2, e2, _⟩ := DataW.trod_string u9 g2
      rw [hz] at hmap
      simp only [List.map_cons, List.map_nil, e0, e1, e2] at hmap
      have hm := agg_inj hmap
      simp only [List.cons.injEq, DataW.lit.injEq, Lit.int.injEq, Lit.string.injEq, true_and, and_true] at hm
      obtain ⟨a0, a1, a2⟩ := hm
      cases h0; cases h1; cases h2
      have hcell := fun i => World.var?_cell gUs hv0 (k * 3 + i)
      have hcut := fun (i : Nat) v hv => cut_cell (l := [.int .i64 i0, .int .u8 i1, .string s2]) hcs (i := i) (v := v) hv
      refine ⟨?_, ?_, ?_⟩
      · have := hcell 0; rw [Nat.add_zero] at this; rw [this, ← Array.getElem?_toList, show k * 3 = k * 3 + 0 from rfl, hcut 0 _ rfl, a0]
      · rw [hcell 1, ← Array.getElem?_toList, hcut 1 _ rfl, a1]
      · rw [hcell 2, ← Array.getElem?_toList, hcut 2 _ rfl, a2]; rfl
set_option maxHeartbeats 1000000 in
theorem ops_of_laid {r : List (String × DataW Unit)} {W : World} (h : laidMet Tryz.prog (("culprit/check.operations", Rows.laid_culprit_check_operations) :: r) W) :
    ∀ (k : Nat) e, opsL[k]? = some e → W.cell? ⟨1, k * 2, none⟩ = some (.string (S e.1)) ∧ W.cell? ⟨1, k * 2 + 1, none⟩ = some (.string (S e.2)) := by
  obtain ⟨ps, ⟨g0, t0, cs0, f0, p0, q0, hg0, ht0, hv0, htr, _⟩, _⟩ := h
  obtain rfl := Option.some.inj (gOp.symm.trans hg0)
  obtain rfl := Option.some.inj (gOpT.symm.trans ht0)
  obtain ⟨xs, m, _, hd, _, hxl, hel⟩ := DataW.trod_array opTy htr
  rw [opD] at hd
  have hd1 := agg_inj (Prod.mk.inj hd).1
  rw [show Tryz.prog.cellsOf 155 = 2 by kernel_rfl] at hel
  intro k e hk
  have hk18 : k < 18 := (List.getElem?_eq_some_iff.1 hk).1
  have he := hel k hk18
  obtain ⟨y, hy⟩ : ∃ y, xs[k]? = some y := ⟨xs[k], List.getElem?_eq_getElem (by omega)⟩
  rw [hy] at he
  have hmap : (opsL.map fun e => (DataW.agg [.lit (.string e.1), .lit (.string e.2)] : DataW Unit))[k]? = (xs.map (·.1))[k]? := by rw [hd1]
  rw [List.getElem?_map, List.getElem?_map, hk, hy] at hmap
  simp only [Option.map_some, Option.some.injEq] at hmap
  obtain ⟨fs, hu, hfs⟩ := fields_some opF
  obtain ⟨zs, m2, _, hz, hlen, hzl, hf⟩ := DataW.trod_struct hu he
  rw [show Tryz.prog.cellsOf 155 = 2 by kernel_rfl] at hlen
  have c9 : Tryz.prog.cellsOf 9 = 1 := by kernel_rfl
  have u9 : Tryz.prog.underlying 9 = some .string := by kernel_rfl
  obtain ⟨fl⟩ := fs
  simp only at hfs
  generalize hcs : (cs0.toList.drop (k * 2)).take 2 = cs at hlen hf
  match fl, hfs with
  | [f0', f1], hfs =>
    simp only [List.map_cons, List.map_nil, List.cons.injEq, Prod.mk.injEq, and_true] at hfs
    obtain ⟨⟨t0, o0⟩, ⟨t1, o1⟩⟩ := hfs
    match zs, hzl, cs, hlen with
    | [y0, y1], _, [v0, v1], _ =>
      have g0 := hf 0 f0' rfl
      have g1 := hf 1 f1 rfl
      simp only [t0, o0, t1, o1, c9] at g0 g1
      simp only [List.drop_zero, List.drop_succ_cons, List.take_succ_cons, List.take_zero, List.getElem?_cons_zero, List.getElem?_cons_succ, List.take_nil] at g0 g1
      obtain ⟨s0, h0, e0, _⟩ := DataW.trod_string u9 g0
      obtain ⟨s1, h1, e1, _⟩ := DataW.trod_string u9 g1
      rw [hz] at hmap
      simp only [List.map_cons, List.map_nil, e0, e1] at hmap
      have hm := agg_inj hmap
      simp only [List.cons.injEq, DataW.lit.injEq, Lit.string.injEq, and_true] at hm
      obtain ⟨a0, a1⟩ := hm
      cases h0; cases h1
      have hcell := fun i => World.var?_cell gOp hv0 (k * 2 + i)
      have hcut := fun (i : Nat) v hv => cut_cell (l := [.string s0, .string s1]) hcs (i := i) (v := v) hv
      refine ⟨?_, ?_⟩
      · have := hcell 0; rw [Nat.add_zero] at this; rw [this, ← Array.getElem?_toList, show k * 2 = k * 2 + 0 from rfl, hcut 0 _ rfl, a0]; rfl
      · rw [hcell 1, ← Array.getElem?_toList, hcut 1 _ rfl, a1]; rfl
theorem laid_lt {P : Program} {n : String} {d : DataW Unit} {r : List (String × DataW Unit)} {W : World} {g : Nat} (h : laidMet P ((n, d) :: r) W) (hg : P.globalNamed n = some g) : g < W.heap.size := by
  obtain ⟨ps, ⟨g0, t0, cs0, f0, p0, q0, hg0, ht0, hv0, _⟩, _⟩ := h
  obtain rfl := Option.some.inj (hg.symm.trans hg0)
  unfold World.var? at hv0
  rw [hg0] at hv0
  rcases Nat.lt_or_ge g W.heap.size with h' | h'
  · exact h'
  · simp [Array.getElem?_eq_none h'] at hv0
theorem gAR : Tryz.prog.globalNamed "unicode/utf8.acceptRanges" = some 7 := by kernel_rfl
theorem all_of_laid {W : World} (h : laidMetH Tryz.prog laidAll W) (hs : W.ShapedOpen Tryz.prog) : HasG W ∧ 8 ≤ W.heap.size := by
  rw [MakeChecks.laidMetH_plain _ _ _ (by kernel_rfl)] at h
  refine ⟨⟨?_, uses_of_laid h.tail.tail, ops_of_laid h.tail⟩, laid_lt h gAR⟩
  exact cell_of_shapedOpen_int (t := 3) (zero := #[.int .i64 0]) hs (of_decide_eq_true (by kernel_rfl)) (by kernel_rfl) rfl (by kernel_rfl) (by kernel_rfl) (by kernel_rfl)
end Go.Proofs.YthihnkgjkmaplaaGreatDoor
namespace Go.Proofs.YthihnkgjkmaplaaGreatDoor
open Go.ChangeShapes Go.WideShapes Go.RowKit
set_option maxRecDepth 100000

theorem ndF : fieldsOf Tryz.prog 64 = [(60, 0), (3, 1), (2, 2), (9, 3), (9, 4), (9, 5), (62, 6)] := by kernel_rfl
theorem plF : fieldsOf Tryz.prog 62 = [(3, 0), (3, 1)] := by kernel_rfl
theorem weights_lit {H : Type} {P : Program} (s : ByteArray) (t : TypeId) : s.size ∈ (DataW.lit (.string s.data.toList) : DataW H).weights P t := by
  unfold DataW.weights
  rw [← str_len s]
  exact List.mem_singleton.2 rfl
theorem weightsAll_mem {H : Type} {P : Program} {e : TypeId} : ∀ {l : List (DataW H)} {d : DataW H}, d ∈ l → ∀ n ∈ d.weights P e, n ∈ DataW.weightsAll P e l
  | [], _, h, _, _ => by simp at h
  | a :: l, d, h, n, hn => by
    rw [DataW.weightsAll, List.mem_append]
    rcases List.mem_cons.1 h with rfl | h
    · exact .inl hn
    · exact .inr (weightsAll_mem h n hn)

section
variable {H : Type} {enc : TypeId × Value → H} {W : World} {base : Nat} {sp : Nat → Bool} {hd : Bool}

set_option maxHeartbeats 2000000 in
theorem node_open {n : Nat} {cs : List Value} {y : DataW H × List MemPlace} (h : DataW.trod enc Tryz.prog W base sp hd n 64 cs = some y) :
    ∃ x : Tr.Nd, cs = Tr.ncells x ∧ x.kids ≤ 9223372036854775807 ∧ x.s.size ≤ maxLen ∧ x.s.size ∈ y.1.weights Tryz.prog 64 ∧ x.t.size ∈ y.1.weights Tryz.prog 64 ∧ x.u.size ∈ y.1.weights Tryz.prog 64 := by
  obtain ⟨fs, hu, hfs⟩ := fields_some ndF
  obtain ⟨xs, k, _, rfl, hlen, hxl, hf⟩ := DataW.trod_struct hu h
  rw [show Tryz.prog.cellsOf 64 = 8 by kernel_rfl] at hlen
  have c34 : Tryz.prog.cellsOf 60 = 1 := by kernel_rfl
  have c3 : Tryz.prog.cellsOf 3 = 1 := by kernel_rfl
  have c2 : Tryz.prog.cellsOf 2 = 1 := by kernel_rfl
  have c9 : Tryz.prog.cellsOf 9 = 1 := by kernel_rfl
  have cp : Tryz.prog.cellsOf 62 = 2 := by kernel_rfl
  have u34 : Tryz.prog.underlying 60 = some (.int .i8) := by kernel_rfl
  have u3 : Tryz.prog.underlying 3 = some (.int .i64) := by kernel_rfl
  have u2 : Tryz.prog.underlying 2 = some (.int .i64) := by kernel_rfl
  have u9 : Tryz.prog.underlying 9 = some .string := by kernel_rfl
  obtain ⟨fl⟩ := fs
  simp only at hfs
  match fl, hfs with
  | [f0, f1, f2, f3, f4, f5, f6], hfs =>
    simp only [List.map_cons, List.map_nil, List.cons.injEq, Prod.mk.injEq, and_true] at hfs
    obtain ⟨⟨t0, o0⟩, ⟨t1, o1⟩, ⟨t2, o2⟩, ⟨t3, o3⟩, ⟨t4, o4⟩, ⟨t5, o5⟩, ⟨t6, o6⟩⟩ := hfs
    match xs, hxl, cs, hlen with
    | [y0, y1, y2, y3, y4, y5, y6], _, [v0, v1, v2, v3, v4, v5, v6, v7], _ =>
      have g0 := hf 0 f0 rfl
      have g1 := hf 1 f1 rfl
      have g2 := hf 2 f2 rfl
      have g3 := hf 3 f3 rfl
      have g4 := hf 4 f4 rfl
      have g5 := hf 5 f5 rfl
      have g6 := hf 6 f6 rfl
      simp only [t0, o0, c34, t1, o1, c3, t2, o2, c2, t3, o3, c9, t4, o4, t5, o5, t6, o6, cp] at g0 g1 g2 g3 g4 g5 g6
      simp only [List.drop_zero, List.drop_succ_cons, List.take_succ_cons, List.take_zero, List.getElem?_cons_zero, List.getElem?_cons_succ, List.take_nil] at g0 g1 g2 g3 g4 g5 g6
      obtain ⟨i0, h0, _, _⟩ := DataW.trod_int u34 g0
      obtain ⟨i1, h1, _, w1⟩ := DataW.trod_int u3 g1
      obtain ⟨i2, h2, _, _⟩ := DataW.trod_int u2 g2
      obtain ⟨s3, h3, e3, w3⟩ := DataW.trod_string u9 g3
      obtain ⟨s4, h4, e4, w4⟩ := DataW.trod_string u9 g4
      obtain ⟨s5, h5, e5, w5⟩ := DataW.trod_string u9 g5
      obtain ⟨ps, hup, hps⟩ := fields_some plF
      obtain ⟨zs, k2, _, _, hlen2, hzl, hf2⟩ := DataW.trod_struct hup g6
      obtain ⟨pl⟩ := ps
      simp only at hps
      match pl, hps with
      | [q0, q1], hps =>
        simp only [List.map_cons, List.map_nil, List.cons.injEq, Prod.mk.injEq, and_true] at hps
        obtain ⟨⟨s0, p0⟩, ⟨s1, p1⟩⟩ := hps
        match zs, hzl with
        | [z0, z1], _ =>
          have k0 := hf2 0 q0 rfl
          have k1 := hf2 1 q1 rfl
          simp only [s0, p0, s1, p1, c3, List.drop_zero, List.drop_succ_cons, List.take_succ_cons, List.take_zero, List.getElem?_cons_zero, List.getElem?_cons_succ] at k0 k1
          obtain ⟨i6, h6, _, _⟩ := DataW.trod_int u3 k0
          obtain ⟨i7, h7, _, _⟩ := DataW.trod_int u3 k1
          cases h0; cases h1; cases h2; cases h3; cases h4; cases h5; cases h6; cases h7
          have hw : (DataW.agg (List.map (fun x => x.1) [y0, y1, y2, y3, y4, y5, y6])).weights Tryz.prog 64 = DataW.weightsEach Tryz.prog ([f0, f1, f2, f3, f4, f5, f6].map (·.type)) [y0.1, y1.1, y2.1, y3.1, y4.1, y5.1, y6.1] := by
            simp only [DataW.weights, hu]; rfl
          refine ⟨⟨i0, i1, i2, s3, s4, s5, i6, i7⟩, rfl, ?_, w3, ?_, ?_, ?_⟩
          · exact (bounds_i64 w1).2
          all_goals rw [hw]
          · exact DataW.weights_mem_each (j := 3) (t := 9) (d := y3.1) (congrArg some t3) rfl _ (by rw [e3]; exact weights_lit s3 _)
          · exact DataW.weights_mem_each (j := 4) (t := 9) (d := y4.1) (congrArg some t4) rfl _ (by rw [e4]; exact weights_lit s4 _)
          · exact DataW.weights_mem_each (j := 5) (t := 9) (d := y5.1) (congrArg some t5) rfl _ (by rw [e5]; exact weights_lit s5 _)

set_option maxHeartbeats 2000000 in
theorem nodes_open {fuel : Nat} {v : Value} {d : DataW H} {p : List MemPlace} (h : DataW.trod enc Tryz.prog W base sp hd fuel 22 [v] = some (d, p)) :
    ∃ l : List Tr.Nd, IsNodes W v l ∧ (∀ x ∈ l, x.kids ≤ 9223372036854775807 ∧ x.s.size ≤ maxLen ∧ x.s.size ∈ d.weights Tryz.prog 22 ∧ x.t.size ∈ d.weights Tryz.prog 22 ∧ x.u.size ∈ d.weights Tryz.prog 22) ∧
      (l = [] ∨ ∃ N, l.length ≤ N ∧ N * 88 ∈ d.weights Tryz.prog 22) := by
  have ce : Tryz.prog.cellsOf 64 = 8 := by kernel_rfl
  have cb : Tryz.prog.bytesOf 64 = 88 := by kernel_rfl
  rcases Go.Deep.open_slice tyNodes h with ⟨hcs, _⟩ | ⟨a, len, cap, m, n, D, Pl, hcs, hb, hl, hm, hmm, hx, hel⟩
  · cases hcs
    exact ⟨[], .inl ⟨rfl, _, _, rfl⟩, by simp, .inl rfl⟩
  · cases hcs
    have hd := (Prod.mk.inj hx).1
    subst hd
    have hlm : len ≤ m := by rw [hmm]; split <;> omega
    rw [ce] at hel
    obtain ⟨X, hX⟩ := Go.Deep.choose_lt (n := len) (α := Option Tr.Nd) (p := fun i o => ∃ x, o = some x ∧ (∀ j, j < 8 → W.cell? ((a.add (i * 8)).add j) = (Tr.ncells x)[j]?) ∧ x.kids ≤ 9223372036854775807 ∧ x.s.size ≤ maxLen ∧ x.s.size ∈ (D i).weights Tryz.prog 64 ∧ x.t.size ∈ (D i).weights Tryz.prog 64 ∧ x.u.size ∈ (D i).weights Tryz.prog 64) (fun i hi => by
      obtain ⟨cs', h1, h2⟩ := hel i (by omega)
      obtain ⟨_, hlen, hcell⟩ := World.cells?_some h1
      obtain ⟨x, rfl, r⟩ := node_open h2
      exact ⟨some x, x, rfl, hcell, r⟩)
    have hw : ∀ i, i < len → ∀ n ∈ (D i).weights Tryz.prog 64, n ∈ (DataW.slice ((List.range len).map D) ((List.range (m - len)).map fun j => D (len + j))).weights Tryz.prog 22 := by
      intro i hi n hn
      simp only [DataW.weights, tyNodes]
      refine List.mem_cons_of_mem _ (List.mem_append_left _ (weightsAll_mem (d := D i) ?_ n hn))
      exact List.mem_map.2 ⟨i, List.mem_range.2 hi, rfl⟩
    have hget : ∀ j x, ((List.range len).filterMap X)[j]? = some x → j < len ∧ X j = some x := by
      have key : ∀ N, N ≤ len → ((List.range N).filterMap X).length = N ∧ ∀ j x, ((List.range N).filterMap X)[j]? = some x → j < N ∧ X j = some x := by
        intro N
        induction N with
        | zero => intro _; exact ⟨rfl, by simp⟩
        | succ N ih =>
          intro hN
          obtain ⟨e1, e2⟩ := ih (by omega)
          obtain ⟨x, hx, _⟩ := hX N (by omega)
          rw [List.range_succ, List.filterMap_append, show [N].filterMap X = [x] by simp [hx]]
          refine ⟨by simp [e1], fun j y hy => ?_⟩
          by_cases hj : j < N
          · rw [List.getElem?_append_left (by omega)] at hy
            exact ⟨by omega, (e2 j y hy).2⟩
          · have hj2 : j = N := by
              have := (List.getElem?_eq_some_iff.1 hy).1
              simp [e1] at this; omega
            subst hj2
            rw [List.getElem?_append_right (by omega), e1] at hy
            simp at hy
            subst hy
            exact ⟨by omega, hx⟩
      exact (key len (Nat.le_refl _)).2
    have hlen : ((List.range len).filterMap X).length = len := by
      apply Nat.le_antisymm
      · have := List.length_filterMap_le X (List.range len); simpa using this
      · apply Nat.le_of_not_lt
        intro hlt
        have : ∀ N, N ≤ len → ((List.range N).filterMap X).length = N := by
          intro N
          induction N with
          | zero => intro _; rfl
          | succ N ih =>
            intro hN
            obtain ⟨x, hx, _⟩ := hX N (by omega)
            rw [List.range_succ, List.filterMap_append, show [N].filterMap X = [x] by simp [hx]]
            simp [ih (by omega)]
        have := this len (Nat.le_refl _)
        omega
    refine ⟨(List.range len).filterMap X, ?_, ?_, ?_⟩
    · by_cases h0 : len = 0
      · subst h0; exact .inl ⟨rfl, _, _, rfl⟩
      · obtain ⟨b, o, spot⟩ := a
        obtain ⟨x0, _, hc0, _⟩ := hX 0 (by omega)
        have c0 := hc0 0 (by omega)
        have hspot : spot = none := by simpa [Addr.add] using World.cell?_spot c0
        subst hspot
        refine .inr ⟨b, o, cap, by rw [hlen], by rw [hlen]; exact hl, ?_, fun j x hj i u hu => ?_⟩
        · have := World.block_lt_of_cell? W _ c0
          simpa [Addr.add] using this
        · obtain ⟨hjl, hXj⟩ := hget j x hj
          obtain ⟨x', e, hc, _⟩ := hX j hjl
          obtain rfl : x' = x := by rw [hXj] at e; exact (Option.some.inj e).symm
          have hi8 : i < 8 := by have := (List.getElem?_eq_some_iff.1 hu).1; simpa [Tr.ncells] using this
          have := hc i hi8
          rw [hu, add_plain, add_plain] at this
          exact this
    · intro x hx
      obtain ⟨j, hj⟩ := List.getElem?_of_mem hx
      obtain ⟨hjl, hXj⟩ := hget j x hj
      obtain ⟨x', e, _, r1, r2, r3, r4, r5⟩ := hX j hjl
      obtain rfl : x' = x := by rw [hXj] at e; exact (Option.some.inj e).symm
      exact ⟨r1, r2, hw j hjl _ r3, hw j hjl _ r4, hw j hjl _ r5⟩
    · refine .inr ⟨m, by rw [hlen]; exact hlm, ?_⟩
      simp only [DataW.weights, tyNodes, cb]
      refine List.mem_cons.2 (.inl ?_)
      simp; omega

theorem texts_open {fuel : Nat} {v : Value} {d : DataW H} {p : List MemPlace} (h : DataW.trod enc Tryz.prog W base sp hd fuel 23 [v] = some (d, p)) :
    ∃ l : List (List UInt8), T3.IsTexts W v l ∧ ∀ x ∈ l, x.length ≤ maxLen := by
  have ty : Tryz.prog.underlying 23 = some (.slice 9) := by kernel_rfl
  have te : Tryz.prog.underlying 9 = some .string := by kernel_rfl
  have tc : Tryz.prog.cellsOf 9 = 1 := by kernel_rfl
  rcases Go.Deep.open_strs ty te tc h with ⟨hcs, _⟩ | ⟨a, len, cap, m, Sx, hcs, _, hl, _, hmm, _, hx⟩
  · cases hcs
    exact ⟨[], .inl ⟨rfl, _, _, rfl⟩, by simp⟩
  · cases hcs
    have hlm : len ≤ m := by rw [hmm]; split <;> omega
    refine ⟨(List.range len).map fun i => (Sx i).data.toList, ?_, fun x hx' => ?_⟩
    · by_cases h0 : len = 0
      · subst h0; exact .inl ⟨rfl, _, _, rfl⟩
      · obtain ⟨b, o, spot⟩ := a
        have c0 := (hx 0 (by omega)).1
        have hspot : spot = none := by simpa [Addr.add] using World.cell?_spot c0
        subst hspot
        refine .inr ⟨b, o, cap, by simp, by simpa using hl, ?_, fun j q hq => ?_⟩
        · have := World.block_lt_of_cell? W _ c0
          simpa [Addr.add] using this
        · rw [List.getElem?_map] at hq
          have hj : j < len := by
            by_cases hj : j < len
            · exact hj
            · rw [List.getElem?_eq_none (by simp; omega)] at hq; simp at hq
          rw [List.getElem?_range hj] at hq
          simp at hq
          subst hq
          have := (hx j (by omega)).1
          rw [add_plain] at this
          rw [this]; rfl
    · obtain ⟨i, hi, rfl⟩ := List.mem_map.1 hx'
      have := (hx i (by have := List.mem_range.1 hi; omega)).2
      rw [str_len]; exact this

theorem csF : fieldsOf Tryz.prog 25 = [(22, 0), (23, 1), (23, 2)] := by kernel_rfl
set_option maxHeartbeats 1000000 in
theorem case_open {n : Nat} {cs : List Value} {y : DataW H × List MemPlace} (h : DataW.trod enc Tryz.prog W base sp hd n 25 cs = some y) (hm : ∀ n ∈ y.1.weights Tryz.prog 25, n ≤ 140737488351232) :
    ∃ vL vN vT l N Th, cs = [vL, vN, vT] ∧ IsNodes W vL l ∧ Fits l ∧ T3.IsTexts W vN N ∧ (∀ x ∈ N, x.length ≤ maxLen) ∧ T3.IsTexts W vT Th := by
  obtain ⟨fs, hu, hfs⟩ := fields_some csF
  obtain ⟨xs, k, _, rfl, hlen, hxl, hf⟩ := DataW.trod_struct hu h
  rw [show Tryz.prog.cellsOf 25 = 3 by kernel_rfl] at hlen
  have c1 : Tryz.prog.cellsOf 22 = 1 := by kernel_rfl
  have c2 : Tryz.prog.cellsOf 23 = 1 := by kernel_rfl
  obtain ⟨fl⟩ := fs
  simp only at hfs
  match fl, hfs with
  | [f0, f1, f2], hfs =>
    simp only [List.map_cons, List.map_nil, List.cons.injEq, Prod.mk.injEq, and_true] at hfs
    obtain ⟨⟨t0, o0⟩, ⟨t1, o1⟩, ⟨t2, o2⟩⟩ := hfs
    match xs, hxl, cs, hlen with
    | [y0, y1, y2], _, [v0, v1, v2], _ =>
      have g0 := hf 0 f0 rfl
      have g1 := hf 1 f1 rfl
      have g2 := hf 2 f2 rfl
      simp only [t0, o0, c1, t1, o1, c2, t2, o2] at g0 g1 g2
      simp only [List.drop_zero, List.drop_succ_cons, List.take_succ_cons, List.take_zero, List.getElem?_cons_zero, List.getElem?_cons_succ, List.take_nil] at g0 g1 g2
      have hw : (DataW.agg (List.map (fun x => x.1) [y0, y1, y2])).weights Tryz.prog 25 = DataW.weightsEach Tryz.prog ([f0, f1, f2].map (·.type)) [y0.1, y1.1, y2.1] := by
        simp only [DataW.weights, hu]; rfl
      obtain ⟨l, hl, hx, hN⟩ := nodes_open (v := v0) (d := y0.1) (p := y0.2) g0
      obtain ⟨N, hn, hns⟩ := texts_open (v := v1) (d := y1.1) (p := y1.2) g1
      obtain ⟨Th, ht, _⟩ := texts_open (v := v2) (d := y2.1) (p := y2.2) g2
      refine ⟨v0, v1, v2, l, N, Th, rfl, hl, ⟨?_, fun x h => (hx x h).1, fun x h => (hx x h).2.1⟩, hn, hns, ht⟩
      rcases hN with rfl | ⟨M, h1, h2⟩
      · simp
      · have := hm _ (by rw [hw]; exact DataW.weights_mem_each (j := 0) (t := 22) (d := y0.1) (congrArg some t0) rfl _ h2)
        omega
end
end Go.Proofs.YthihnkgjkmaplaaGreatDoor
namespace Go.Proofs.YthihnkgjkmaplaaGreatDoor
open Go.ChangeShapes Go.WideShapes Go.RowKit
set_option maxRecDepth 100000

section
variable {H : Type} {enc : TypeId × Value → H} {W : World} {base : Nat} {sp : Nat → Bool} {hd : Bool}
set_option maxHeartbeats 1000000 in
theorem case_open2 {n : Nat} {cs : List Value} {y : DataW H × List MemPlace} (h : DataW.trod enc Tryz.prog W base sp hd n 25 cs = some y) (hm : ∀ n ∈ y.1.weights Tryz.prog 25, n ≤ 140737488351232) :
    ∃ vL vN vT l N Th, cs = [vL, vN, vT] ∧ IsNodes W vL l ∧ Fits l ∧ T3.IsTexts W vN N ∧ (∀ x ∈ N, x.length ≤ maxLen) ∧ T3.IsTexts W vT Th ∧ (∀ x ∈ Th, x.length ≤ maxLen) ∧ (∀ x ∈ l, x.t.size ≤ maxLen ∧ x.u.size ≤ maxLen) := by
  obtain ⟨fs, hu, hfs⟩ := fields_some csF
  obtain ⟨xs, k, _, rfl, hlen, hxl, hf⟩ := DataW.trod_struct hu h
  rw [show Tryz.prog.cellsOf 25 = 3 by kernel_rfl] at hlen
  have c1 : Tryz.prog.cellsOf 22 = 1 := by kernel_rfl
  have c2 : Tryz.prog.cellsOf 23 = 1 := by kernel_rfl
  obtain ⟨fl⟩ := fs
  simp only at hfs
  match fl, hfs with
  | [f0, f1, f2], hfs =>
    simp only [List.map_cons, List.map_nil, List.cons.injEq, Prod.mk.injEq, and_true] at hfs
    obtain ⟨⟨t0, o0⟩, ⟨t1, o1⟩, ⟨t2, o2⟩⟩ := hfs
    match xs, hxl, cs, hlen with
    | [y0, y1, y2], _, [v0, v1, v2], _ =>
      have g0 := hf 0 f0 rfl
      have g1 := hf 1 f1 rfl
      have g2 := hf 2 f2 rfl
      simp only [t0, o0, c1, t1, o1, c2, t2, o2] at g0 g1 g2
      simp only [List.drop_zero, List.drop_succ_cons, List.take_succ_cons, List.take_zero, List.getElem?_cons_zero, List.getElem?_cons_succ, List.take_nil] at g0 g1 g2
      have hw : (DataW.agg (List.map (fun x => x.1) [y0, y1, y2])).weights Tryz.prog 25 = DataW.weightsEach Tryz.prog ([f0, f1, f2].map (·.type)) [y0.1, y1.1, y2.1] := by
        simp only [DataW.weights, hu]; rfl
      have hm0 : ∀ n ∈ y0.1.weights Tryz.prog 22, n ≤ 140737488351232 := fun n hn => hm _ (by rw [hw]; exact DataW.weights_mem_each (j := 0) (t := 22) (d := y0.1) (congrArg some t0) rfl _ hn)
      obtain ⟨l, hl, hx, hN⟩ := nodes_open (v := v0) (d := y0.1) (p := y0.2) g0
      obtain ⟨N, hn, hns⟩ := texts_open (v := v1) (d := y1.1) (p := y1.2) g1
      obtain ⟨Th, ht, hts⟩ := texts_open (v := v2) (d := y2.1) (p := y2.2) g2
      refine ⟨v0, v1, v2, l, N, Th, rfl, hl, ⟨?_, fun x h => (hx x h).1, fun x h => (hx x h).2.1⟩, hn, hns, ht, hts, fun x h => ?_⟩
      · rcases hN with rfl | ⟨M, h1, h2⟩
        · simp
        · have := hm0 _ h2
          omega
      · have h1 := hm0 _ (hx x h).2.2.2.1
        have h2 := hm0 _ (hx x h).2.2.2.2
        unfold maxLen
        omega
end
end Go.Proofs.YthihnkgjkmaplaaGreatDoor
