/- The listed passages of package value, and one start in which they lie so. -/
import Derived.Test.YtkmoeflodafoeaaGreatDoorUbb
import Derived.Test.YtkmoeflodafoeaaGreatDoorRows
import Derived.Deep.Slices
import Derived.ChangeArms
import Derived.ProofKit
import Derived.OpenShut
import Derived.LaidMore
import Derived.Lay
import Derived.SevenTiedAt
import Derived.Stop.Joined
import Derived.Stop.LaidErr
import Derived.SizedLaws
namespace Go.Proofs.YtkmoeflodafoeaaGreatDoor.Vl
open Go.ChangeShapes Go.WideShapes Go.ChangeAt Go.RowKit
set_option maxRecDepth 100000
set_option linter.unusedVariables false
theorem ownKnobs : ownKnob Tryz.prog.godebug = none := by kernel_rfl
theorem laidOutAll : laidOutB Tryz.prog = true := by kernel_rfl
def fieldsOf (P : Program) (t : TypeId) : List (Nat × Nat) := match P.underlying t with
  | some (.struct fs) => fs.toList.map fun f => (f.type, f.offset)
  | _ => []
theorem fields_some {P : Program} {t : TypeId} {l : List (Nat × Nat)} {x : Nat × Nat} (h : fieldsOf P t = x :: l) : ∃ fs, P.underlying t = some (.struct fs) ∧ fs.toList.map (fun f => (f.type, f.offset)) = x :: l := by
  unfold fieldsOf at h
  split at h
  · exact ⟨_, by assumption, h⟩
  · simp at h
theorem psF : fieldsOf Tryz.prog 142 = [(5, 0), (3, 1), (3, 2), (4, 3)] := by kernel_rfl
theorem agg_injv {H : Type} {a b : List (DataW H)} (h : DataW.agg a = DataW.agg b) : a = b := by injection h
set_option maxHeartbeats 1000000 in
theorem pas_open {H : Type} {enc : TypeId × Value → H} {W : World} {base : Nat} {sp : Nat → Bool} {hd : Bool} {n : Nat} {cs : List Value} {y : DataW H × List MemPlace} (h : DataW.trod enc Tryz.prog W base sp hd n 142 cs = some y) :
    ∃ (a i k : Int) (b : Bool), cs = [.int .u8 a, .int .i64 i, .int .i64 k, .bool b] ∧ y.1 = .agg [.lit (.int .u8 a), .lit (.int .i64 i), .lit (.int .i64 k), .lit (.bool b)] := by
  obtain ⟨fs, hu, hfs⟩ := fields_some psF
  obtain ⟨xs, k, _, hy, hlen, hxl, hf⟩ := DataW.trod_struct hu h
  rw [show Tryz.prog.cellsOf 142 = 4 by kernel_rfl] at hlen
  have c3 : Tryz.prog.cellsOf 3 = 1 := by kernel_rfl
  have c4 : Tryz.prog.cellsOf 4 = 1 := by kernel_rfl
  have c5 : Tryz.prog.cellsOf 5 = 1 := by kernel_rfl
  have u3 : Tryz.prog.underlying 3 = some (.int .i64) := by kernel_rfl
  have u4 : Tryz.prog.underlying 4 = some .bool := by kernel_rfl
  have u5 : Tryz.prog.underlying 5 = some (.int .u8) := by kernel_rfl
  obtain ⟨fl⟩ := fs
  simp only at hfs
  match fl, hfs with
  | [f0, f1, f2, f3], hfs =>
    simp only [List.map_cons, List.map_nil, List.cons.injEq, Prod.mk.injEq, and_true] at hfs
    obtain ⟨⟨t0, o0⟩, ⟨t1, o1⟩, ⟨t2, o2⟩, ⟨t3, o3⟩⟩ := hfs
    match xs, hxl, cs, hlen with
    | [y0, y1, y2, y3], _, [v0, v1, v2, v3], _ =>
      have g0 := hf 0 f0 rfl
      have g1 := hf 1 f1 rfl
      have g2 := hf 2 f2 rfl
      have g3 := hf 3 f3 rfl
      simp only [t0, o0, c3, t1, o1, c5, t2, o2, c4, t3, o3] at g0 g1 g2 g3
      simp only [List.drop_zero, List.drop_succ_cons, List.take_succ_cons, List.take_zero, List.getElem?_cons_zero, List.getElem?_cons_succ, List.take_nil] at g0 g1 g2 g3
      obtain ⟨i0, h0, e0, _⟩ := DataW.trod_int u5 g0
      obtain ⟨i1, h1, e1, _⟩ := DataW.trod_int u3 g1
      obtain ⟨i2, h2, e2, _⟩ := DataW.trod_int u3 g2
      obtain ⟨b3, h3, e3⟩ := DataW.trod_bool u4 g3
      cases h0; cases h1; cases h2; cases h3
      refine ⟨i0, i1, i2, b3, rfl, ?_⟩
      rw [hy]
      simp [e0, e1, e2, e3]
theorem g_firstHalf : Tryz.prog.globalNamed "culprit/value.firstHalf" = some 4 := by kernel_rfl
theorem gT_firstHalf : (Tryz.prog.globals[4]?).map (·.type) = some 142 := by kernel_rfl
theorem has_firstHalf {r : List (String × DataW Unit)} {W : World} (h : laidMet Tryz.prog (("culprit/value.firstHalf", Rows.laid_culprit_value_firstHalf) :: r) W) : HasG W 4 44 0 0 false := by
  obtain ⟨ps, ⟨g0, t0, cs0, f0, p0, q0, hg0, ht0, hv0, htr, _⟩, _⟩ := h
  obtain rfl := Option.some.inj (g_firstHalf.symm.trans hg0)
  obtain rfl := Option.some.inj (gT_firstHalf.symm.trans ht0)
  obtain ⟨a, i, k, b, hcs, hy⟩ := pas_open htr
  have hd : (Rows.laid_culprit_value_firstHalf : DataW Unit) = .agg [.lit (.int .u8 a), .lit (.int .i64 i), .lit (.int .i64 k), .lit (.bool b)] := hy
  unfold Rows.laid_culprit_value_firstHalf at hd
  have hm := agg_injv hd
  simp only [List.cons.injEq, DataW.lit.injEq, Lit.int.injEq, Lit.bool.injEq, true_and, and_true] at hm
  obtain ⟨rfl, rfl, rfl, rfl⟩ := hm
  have hcell := fun i => World.var?_cell g_firstHalf hv0 i
  have hget : ∀ i, cs0[i]? = [Value.int .u8 44, .int .i64 0, .int .i64 0, .bool false][i]? := fun i => by rw [← Array.getElem?_toList, hcs]
  have hlt : 4 < W.heap.size := by
    unfold World.var? at hv0
    rw [g_firstHalf] at hv0
    rcases Nat.lt_or_ge 4 W.heap.size with h' | h'
    · exact h'
    · simp [Array.getElem?_eq_none h'] at hv0
  exact ⟨⟨(hcell 0).trans (hget 0), (hcell 1).trans (hget 1), (hcell 2).trans (hget 2), (hcell 3).trans (hget 3)⟩, hlt⟩
theorem g_secondHalf : Tryz.prog.globalNamed "culprit/value.secondHalf" = some 6 := by kernel_rfl
theorem gT_secondHalf : (Tryz.prog.globals[6]?).map (·.type) = some 142 := by kernel_rfl
theorem has_secondHalf {r : List (String × DataW Unit)} {W : World} (h : laidMet Tryz.prog (("culprit/value.secondHalf", Rows.laid_culprit_value_secondHalf) :: r) W) : HasG W 6 44 1 1 false := by
  obtain ⟨ps, ⟨g0, t0, cs0, f0, p0, q0, hg0, ht0, hv0, htr, _⟩, _⟩ := h
  obtain rfl := Option.some.inj (g_secondHalf.symm.trans hg0)
  obtain rfl := Option.some.inj (gT_secondHalf.symm.trans ht0)
  obtain ⟨a, i, k, b, hcs, hy⟩ := pas_open htr
  have hd : (Rows.laid_culprit_value_secondHalf : DataW Unit) = .agg [.lit (.int .u8 a), .lit (.int .i64 i), .lit (.int .i64 k), .lit (.bool b)] := hy
  unfold Rows.laid_culprit_value_secondHalf at hd
  have hm := agg_injv hd
  simp only [List.cons.injEq, DataW.lit.injEq, Lit.int.injEq, Lit.bool.injEq, true_and, and_true] at hm
  obtain ⟨rfl, rfl, rfl, rfl⟩ := hm
  have hcell := fun i => World.var?_cell g_secondHalf hv0 i
  have hget : ∀ i, cs0[i]? = [Value.int .u8 44, .int .i64 1, .int .i64 1, .bool false][i]? := fun i => by rw [← Array.getElem?_toList, hcs]
  have hlt : 6 < W.heap.size := by
    unfold World.var? at hv0
    rw [g_secondHalf] at hv0
    rcases Nat.lt_or_ge 6 W.heap.size with h' | h'
    · exact h'
    · simp [Array.getElem?_eq_none h'] at hv0
  exact ⟨⟨(hcell 0).trans (hget 0), (hcell 1).trans (hget 1), (hcell 2).trans (hget 2), (hcell 3).trans (hget 3)⟩, hlt⟩
theorem g_element : Tryz.prog.globalNamed "culprit/value.element" = some 5 := by kernel_rfl
theorem gT_element : (Tryz.prog.globals[5]?).map (·.type) = some 142 := by kernel_rfl
theorem has_element {r : List (String × DataW Unit)} {W : World} (h : laidMet Tryz.prog (("culprit/value.element", Rows.laid_culprit_value_element) :: r) W) : HasG W 5 108 0 0 false := by
  obtain ⟨ps, ⟨g0, t0, cs0, f0, p0, q0, hg0, ht0, hv0, htr, _⟩, _⟩ := h
  obtain rfl := Option.some.inj (g_element.symm.trans hg0)
  obtain rfl := Option.some.inj (gT_element.symm.trans ht0)
  obtain ⟨a, i, k, b, hcs, hy⟩ := pas_open htr
  have hd : (Rows.laid_culprit_value_element : DataW Unit) = .agg [.lit (.int .u8 a), .lit (.int .i64 i), .lit (.int .i64 k), .lit (.bool b)] := hy
  unfold Rows.laid_culprit_value_element at hd
  have hm := agg_injv hd
  simp only [List.cons.injEq, DataW.lit.injEq, Lit.int.injEq, Lit.bool.injEq, true_and, and_true] at hm
  obtain ⟨rfl, rfl, rfl, rfl⟩ := hm
  have hcell := fun i => World.var?_cell g_element hv0 i
  have hget : ∀ i, cs0[i]? = [Value.int .u8 108, .int .i64 0, .int .i64 0, .bool false][i]? := fun i => by rw [← Array.getElem?_toList, hcs]
  have hlt : 5 < W.heap.size := by
    unfold World.var? at hv0
    rw [g_element] at hv0
    rcases Nat.lt_or_ge 5 W.heap.size with h' | h'
    · exact h'
    · simp [Array.getElem?_eq_none h'] at hv0
  exact ⟨⟨(hcell 0).trans (hget 0), (hcell 1).trans (hget 1), (hcell 2).trans (hget 2), (hcell 3).trans (hget 3)⟩, hlt⟩
theorem g_argument : Tryz.prog.globalNamed "culprit/value.argument" = some 0 := by kernel_rfl
theorem gT_argument : (Tryz.prog.globals[0]?).map (·.type) = some 142 := by kernel_rfl
theorem has_argument {r : List (String × DataW Unit)} {W : World} (h : laidMet Tryz.prog (("culprit/value.argument", Rows.laid_culprit_value_argument) :: r) W) : HasG W 0 62 0 0 true := by
  obtain ⟨ps, ⟨g0, t0, cs0, f0, p0, q0, hg0, ht0, hv0, htr, _⟩, _⟩ := h
  obtain rfl := Option.some.inj (g_argument.symm.trans hg0)
  obtain rfl := Option.some.inj (gT_argument.symm.trans ht0)
  obtain ⟨a, i, k, b, hcs, hy⟩ := pas_open htr
  have hd : (Rows.laid_culprit_value_argument : DataW Unit) = .agg [.lit (.int .u8 a), .lit (.int .i64 i), .lit (.int .i64 k), .lit (.bool b)] := hy
  unfold Rows.laid_culprit_value_argument at hd
  have hm := agg_injv hd
  simp only [List.cons.injEq, DataW.lit.injEq, Lit.int.injEq, Lit.bool.injEq, true_and, and_true] at hm
  obtain ⟨rfl, rfl, rfl, rfl⟩ := hm
  have hcell := fun i => World.var?_cell g_argument hv0 i
  have hget : ∀ i, cs0[i]? = [Value.int .u8 62, .int .i64 0, .int .i64 0, .bool true][i]? := fun i => by rw [← Array.getElem?_toList, hcs]
  have hlt : 0 < W.heap.size := by
    unfold World.var? at hv0
    rw [g_argument] at hv0
    rcases Nat.lt_or_ge 0 W.heap.size with h' | h'
    · exact h'
    · simp [Array.getElem?_eq_none h'] at hv0
  exact ⟨⟨(hcell 0).trans (hget 0), (hcell 1).trans (hget 1), (hcell 2).trans (hget 2), (hcell 3).trans (hget 3)⟩, hlt⟩
theorem g_result : Tryz.prog.globalNamed "culprit/value.result" = some 1 := by kernel_rfl
theorem gT_result : (Tryz.prog.globals[1]?).map (·.type) = some 142 := by kernel_rfl
theorem has_result {r : List (String × DataW Unit)} {W : World} (h : laidMet Tryz.prog (("culprit/value.result", Rows.laid_culprit_value_result) :: r) W) : HasG W 1 62 1 1 false := by
  obtain ⟨ps, ⟨g0, t0, cs0, f0, p0, q0, hg0, ht0, hv0, htr, _⟩, _⟩ := h
  obtain rfl := Option.some.inj (g_result.symm.trans hg0)
  obtain rfl := Option.some.inj (gT_result.symm.trans ht0)
  obtain ⟨a, i, k, b, hcs, hy⟩ := pas_open htr
  have hd : (Rows.laid_culprit_value_result : DataW Unit) = .agg [.lit (.int .u8 a), .lit (.int .i64 i), .lit (.int .i64 k), .lit (.bool b)] := hy
  unfold Rows.laid_culprit_value_result at hd
  have hm := agg_injv hd
  simp only [List.cons.injEq, DataW.lit.injEq, Lit.int.injEq, Lit.bool.injEq, true_and, and_true] at hm
  obtain ⟨rfl, rfl, rfl, rfl⟩ := hm
  have hcell := fun i => World.var?_cell g_result hv0 i
  have hget : ∀ i, cs0[i]? = [Value.int .u8 62, .int .i64 1, .int .i64 1, .bool false][i]? := fun i => by rw [← Array.getElem?_toList, hcs]
  have hlt : 1 < W.heap.size := by
    unfold World.var? at hv0
    rw [g_result] at hv0
    rcases Nat.lt_or_ge 1 W.heap.size with h' | h'
    · exact h'
    · simp [Array.getElem?_eq_none h'] at hv0
  exact ⟨⟨(hcell 0).trans (hget 0), (hcell 1).trans (hget 1), (hcell 2).trans (hget 2), (hcell 3).trans (hget 3)⟩, hlt⟩
theorem g_reading : Tryz.prog.globalNamed "culprit/value.reading" = some 2 := by kernel_rfl
theorem gT_reading : (Tryz.prog.globals[2]?).map (·.type) = some 142 := by kernel_rfl
theorem has_reading {r : List (String × DataW Unit)} {W : World} (h : laidMet Tryz.prog (("culprit/value.reading", Rows.laid_culprit_value_reading) :: r) W) : HasG W 2 120 0 0 false := by
  obtain ⟨ps, ⟨g0, t0, cs0, f0, p0, q0, hg0, ht0, hv0, htr, _⟩, _⟩ := h
  obtain rfl := Option.some.inj (g_reading.symm.trans hg0)
  obtain rfl := Option.some.inj (gT_reading.symm.trans ht0)
  obtain ⟨a, i, k, b, hcs, hy⟩ := pas_open htr
  have hd : (Rows.laid_culprit_value_reading : DataW Unit) = .agg [.lit (.int .u8 a), .lit (.int .i64 i), .lit (.int .i64 k), .lit (.bool b)] := hy
  unfold Rows.laid_culprit_value_reading at hd
  have hm := agg_injv hd
  simp only [List.cons.injEq, DataW.lit.injEq, Lit.int.injEq, Lit.bool.injEq, true_and, and_true] at hm
  obtain ⟨rfl, rfl, rfl, rfl⟩ := hm
  have hcell := fun i => World.var?_cell g_reading hv0 i
  have hget : ∀ i, cs0[i]? = [Value.int .u8 120, .int .i64 0, .int .i64 0, .bool false][i]? := fun i => by rw [← Array.getElem?_toList, hcs]
  have hlt : 2 < W.heap.size := by
    unfold World.var? at hv0
    rw [g_reading] at hv0
    rcases Nat.lt_or_ge 2 W.heap.size with h' | h'
    · exact h'
    · simp [Array.getElem?_eq_none h'] at hv0
  exact ⟨⟨(hcell 0).trans (hget 0), (hcell 1).trans (hget 1), (hcell 2).trans (hget 2), (hcell 3).trans (hget 3)⟩, hlt⟩
theorem g_setting : Tryz.prog.globalNamed "culprit/value.setting" = some 3 := by kernel_rfl
theorem gT_setting : (Tryz.prog.globals[3]?).map (·.type) = some 142 := by kernel_rfl
theorem has_setting {r : List (String × DataW Unit)} {W : World} (h : laidMet Tryz.prog (("culprit/value.setting", Rows.laid_culprit_value_setting) :: r) W) : HasG W 3 120 0 1 true := by
  obtain ⟨ps, ⟨g0, t0, cs0, f0, p0, q0, hg0, ht0, hv0, htr, _⟩, _⟩ := h
  obtain rfl := Option.some.inj (g_setting.symm.trans hg0)
  obtain rfl := Option.some.inj (gT_setting.symm.trans ht0)
  obtain ⟨a, i, k, b, hcs, hy⟩ := pas_open htr
  have hd : (Rows.laid_culprit_value_setting : DataW Unit) = .agg [.lit (.int .u8 a), .lit (.int .i64 i), .lit (.int .i64 k), .lit (.bool b)] := hy
  unfold Rows.laid_culprit_value_setting at hd
  have hm := agg_injv hd
  simp only [List.cons.injEq, DataW.lit.injEq, Lit.int.injEq, Lit.bool.injEq, true_and, and_true] at hm
  obtain ⟨rfl, rfl, rfl, rfl⟩ := hm
  have hcell := fun i => World.var?_cell g_setting hv0 i
  have hget : ∀ i, cs0[i]? = [Value.int .u8 120, .int .i64 0, .int .i64 1, .bool true][i]? := fun i => by rw [← Array.getElem?_toList, hcs]
  have hlt : 3 < W.heap.size := by
    unfold World.var? at hv0
    rw [g_setting] at hv0
    rcases Nat.lt_or_ge 3 W.heap.size with h' | h'
    · exact h'
    · simp [Array.getElem?_eq_none h'] at hv0
  exact ⟨⟨(hcell 0).trans (hget 0), (hcell 1).trans (hget 1), (hcell 2).trans (hget 2), (hcell 3).trans (hget 3)⟩, hlt⟩
/-- The variables that the statement lists. -/
abbrev laidAll : List (String × DataW Unit) := [("culprit/value.firstHalf", Rows.laid_culprit_value_firstHalf), ("culprit/value.secondHalf", Rows.laid_culprit_value_secondHalf), ("culprit/value.element", Rows.laid_culprit_value_element), ("culprit/value.argument", Rows.laid_culprit_value_argument), ("culprit/value.result", Rows.laid_culprit_value_result), ("culprit/value.reading", Rows.laid_culprit_value_reading), ("culprit/value.setting", Rows.laid_culprit_value_setting)]
theorem laid_met (os : Os) (args : Array Value) : laidMetH Tryz.prog laidAll ((World.laidAll Tryz.prog os laidAll).forCall (fun _ _ => 0) ⟨#[], args, []⟩).memory := by
  rw [MakeChecks.laidMetH_plain _ _ _ (by kernel_rfl)]
  exact laidMet_laidAll _ (by kernel_rfl) (by kernel_rfl)
end Go.Proofs.YtkmoeflodafoeaaGreatDoor.Vl
