/- Package value: nil parts: Arg, Res, Read, Write, First, Tail, Head, Cast; constructors. -/
import Derived.Test.YtkmoeflodafoeaaGreatDoorUay
namespace Go.Proofs.YtkmoeflodafoeaaGreatDoor.Vl
open Go.RowKit
open T3.Tp (Ty)
set_option maxRecDepth 100000
set_option linter.unusedSimpArgs false
set_option linter.unusedVariables false
/-- A variable that holds a passage of that head. -/
def HasG (w : World) (gl : Nat) (h : Int) (i k : Nat) (inw : Bool) : Prop := (w.cell? ⟨gl, 0, none⟩ = some (.int .u8 h) ∧ w.cell? ⟨gl, 1, none⟩ = some (.int .i64 (i : Int)) ∧ w.cell? ⟨gl, 2, none⟩ = some (.int .i64 (k : Int)) ∧ w.cell? ⟨gl, 3, none⟩ = some (.bool inw)) ∧ gl < w.heap.size
theorem HasG.below {w w' : World} {gl i k : Nat} {h : Int} {inw : Bool} (H : HasG w gl h i k inw) (hB : Below w.heap.size w w') : HasG w' gl h i k inw := by
  obtain ⟨⟨a, b, c, d⟩, e⟩ := H
  exact ⟨⟨(hB.cell (p := ⟨gl, 0, none⟩) e).trans a, (hB.cell (p := ⟨gl, 1, none⟩) e).trans b, (hB.cell (p := ⟨gl, 2, none⟩) e).trans c, (hB.cell (p := ⟨gl, 3, none⟩) e).trans d⟩, Nat.lt_of_lt_of_le e hB.size⟩
set_option maxHeartbeats 800000 in
theorem Arg_nil (x c : Value) (h : Int) (i k : Nat) (inw : Bool) (w : World) (hx : FnAt w x c) (hP : HasG w 0 h i k inw) :
    Calls Tryz.prog 28 #[x, .nilIface] w (Stuck w) := by
  have ht := through_code_nil x c h i k inw w hx
  obtain ⟨⟨c0, c1, c2, c3⟩, -⟩ := hP
  obtain ⟨g, rfl, -⟩ := hx
  unfold psg Stuck at *
  go_enter Tryz.func28, Tryz.ntmps28
  go_wp2_with (go_at_call 70; refine ht.mono ?_; rintro e w1 ⟨rfl, hB1⟩)
  go_ret3
  exact ⟨rfl, hB1⟩
set_option maxHeartbeats 800000 in
theorem Read_nil (x c : Value) (h : Int) (i k : Nat) (inw : Bool) (w : World) (hx : BxAt w x c) (hP : HasG w 2 h i k inw) :
    Calls Tryz.prog 30 #[x, .nilIface] w (Stuck w) := by
  have ht := through_cell_nil x c h i k inw w hx
  obtain ⟨⟨c0, c1, c2, c3⟩, -⟩ := hP
  obtain ⟨g, rfl, -⟩ := hx
  unfold psg Stuck at *
  go_enter Tryz.func30, Tryz.ntmps30
  go_wp2_with (go_at_call 70; refine ht.mono ?_; rintro e w1 ⟨rfl, hB1⟩)
  go_ret3
  exact ⟨rfl, hB1⟩
set_option maxHeartbeats 800000 in
theorem Res_none (T : TypeId) (u : Value) (h : Int) (i k : Nat) (inw : Bool) (w : World) (hP : HasG w 1 h i k inw) :
    Calls Tryz.prog 29 #[.nilIface, .iface T u] w (Stuck w) := by
  have ht := through_code_none (.iface T u) (.inr ⟨_, _, rfl⟩) h i k inw w
  obtain ⟨⟨c0, c1, c2, c3⟩, -⟩ := hP
  unfold psg Stuck at *
  go_enter Tryz.func29, Tryz.ntmps29
  go_wp2_with (go_at_call 70; refine ht.mono ?_; rintro e w1 ⟨rfl, hB1⟩)
  go_ret3
  exact ⟨rfl, hB1⟩
set_option maxHeartbeats 800000 in
theorem Write_none (T : TypeId) (u : Value) (h : Int) (i k : Nat) (inw : Bool) (w : World) (hP : HasG w 3 h i k inw) :
    Calls Tryz.prog 31 #[.nilIface, .iface T u] w (Stuck w) := by
  have ht := through_cell_none (.iface T u) (.inr ⟨_, _, rfl⟩) h i k inw w
  obtain ⟨⟨c0, c1, c2, c3⟩, -⟩ := hP
  unfold psg Stuck at *
  go_enter Tryz.func31, Tryz.ntmps31
  go_wp2_with (go_at_call 70; refine ht.mono ?_; rintro e w1 ⟨rfl, hB1⟩)
  go_ret3
  exact ⟨rfl, hB1⟩
/-- A pair, a list, of its own. -/
def PrAt (w : World) (x a b : Value) : Prop := ∃ g, x = .iface 107 (.pointer (some ⟨g, 0, none⟩)) ∧ w.heap[g]? = some (.cells #[a, b] 109 (0, 0))
theorem PrAt.below {w w' : World} {x a b : Value} (k : PrAt w x a b) (hB : Below w.heap.size w w') : PrAt w' x a b := by
  obtain ⟨g, e, hg⟩ := k
  exact ⟨g, e, blk_keep hg hB⟩
def CnAt (w : World) (x a b : Value) : Prop := ∃ g, x = .iface 110 (.pointer (some ⟨g, 0, none⟩)) ∧ w.heap[g]? = some (.cells #[a, b] 112 (0, 0))
theorem CnAt.below {w w' : World} {x a b : Value} (k : CnAt w x a b) (hB : Below w.heap.size w w') : CnAt w' x a b := by
  obtain ⟨g, e, hg⟩ := k
  exact ⟨g, e, blk_keep hg hB⟩
theorem ta_cons (v : Value) (w : World) : (Instr.typeAssert (.iface 110 v) 26 110 true).run Tryz.prog w = .ok (.tuple #[v, .bool true]) w := by kernel_rfl
theorem tc_empty (v : Value) (w : World) : (Instr.typeAssert (.iface 110 v) 26 157 true).run Tryz.prog w = .ok (.tuple #[.agg #[], .bool false]) w := by kernel_rfl
theorem ta_cons1 (v : Value) (w : World) : (Instr.typeAssert (.iface 110 v) 26 110 false).run Tryz.prog w = .ok v w := by kernel_rfl
theorem ta_pair (v : Value) (w : World) : (Instr.typeAssert (.iface 107 v) 26 107 true).run Tryz.prog w = .ok (.tuple #[v, .bool true]) w := by kernel_rfl
set_option maxHeartbeats 400000 in
theorem Fun_any (T : TypeId) (u : Value) (w : World) : Calls Tryz.prog 25 #[.iface T u] w fun e w' => ∃ x, e = .returned x ∧ FnAt w' x (.iface T u) ∧ Below w.heap.size w w' := by
  go_enter Tryz.func25, Tryz.ntmps25
  go_wp2
  go_ret
  exact ⟨_, rfl, ⟨_, rfl, heap_alloc_new _ _⟩, al_bv _ _⟩
set_option maxHeartbeats 400000 in
theorem Box_any (T : TypeId) (u : Value) (w : World) : Calls Tryz.prog 26 #[.iface T u] w fun e w' => ∃ x, e = .returned x ∧ BxAt w' x (.iface T u) ∧ Below w.heap.size w w' := by
  go_enter Tryz.func26, Tryz.ntmps26
  go_wp2
  go_ret
  exact ⟨_, rfl, ⟨_, rfl, heap_alloc_new _ _⟩, al_bv _ _⟩
set_option maxHeartbeats 400000 in
theorem Pair_any (T U : TypeId) (u v : Value) (w : World) : Calls Tryz.prog 9 #[.iface T u, .iface U v] w fun e w' => ∃ x, e = .returned x ∧ PrAt w' x (.iface T u) (.iface U v) ∧ Below w.heap.size w w' := by
  go_enter Tryz.func9, Tryz.ntmps9
  go_wp2
  go_ret
  exact ⟨_, rfl, ⟨_, rfl, heap_alloc_new _ _⟩, al_bv _ _⟩
set_option maxHeartbeats 400000 in
theorem Pair_nl (U : TypeId) (v : Value) (w : World) : Calls Tryz.prog 9 #[.nilIface, .iface U v] w fun e w' => ∃ x, e = .returned x ∧ PrAt w' x .nilIface (.iface U v) ∧ Below w.heap.size w w' := by
  go_enter Tryz.func9, Tryz.ntmps9
  go_wp2
  go_ret
  exact ⟨_, rfl, ⟨_, rfl, heap_alloc_new _ _⟩, al_bv _ _⟩
set_option maxHeartbeats 400000 in
theorem Pair_rnl (T : TypeId) (u : Value) (w : World) : Calls Tryz.prog 9 #[.iface T u, .nilIface] w fun e w' => ∃ x, e = .returned x ∧ PrAt w' x (.iface T u) .nilIface ∧ Below w.heap.size w w' := by
  go_enter Tryz.func9, Tryz.ntmps9
  go_wp2
  go_ret
  exact ⟨_, rfl, ⟨_, rfl, heap_alloc_new _ _⟩, al_bv _ _⟩
set_option maxHeartbeats 400000 in
theorem Cons_any (T U : TypeId) (u v : Value) (w : World) : Calls Tryz.prog 11 #[.iface T u, .iface U v] w fun e w' => ∃ x, e = .returned x ∧ CnAt w' x (.iface T u) (.iface U v) ∧ Below w.heap.size w w' := by
  go_enter Tryz.func11, Tryz.ntmps11
  go_wp2
  go_ret
  exact ⟨_, rfl, ⟨_, rfl, heap_alloc_new _ _⟩, al_bv _ _⟩
set_option maxHeartbeats 400000 in
theorem Cons_nl (U : TypeId) (v : Value) (w : World) : Calls Tryz.prog 11 #[.nilIface, .iface U v] w fun e w' => ∃ x, e = .returned x ∧ CnAt w' x .nilIface (.iface U v) ∧ Below w.heap.size w w' := by
  go_enter Tryz.func11, Tryz.ntmps11
  go_wp2
  go_ret
  exact ⟨_, rfl, ⟨_, rfl, heap_alloc_new _ _⟩, al_bv _ _⟩
set_option maxHeartbeats 400000 in
theorem Cons_rnl (T : TypeId) (u : Value) (w : World) : Calls Tryz.prog 11 #[.iface T u, .nilIface] w fun e w' => ∃ x, e = .returned x ∧ CnAt w' x (.iface T u) .nilIface ∧ Below w.heap.size w w' := by
  go_enter Tryz.func11, Tryz.ntmps11
  go_wp2
  go_ret
  exact ⟨_, rfl, ⟨_, rfl, heap_alloc_new _ _⟩, al_bv _ _⟩
set_option maxHeartbeats 800000 in
/-- The first half of a pair that has none. -/
theorem First_nil (x b : Value) (h : Int) (i k : Nat) (hk : i = 0) (inw : Bool) (w : World) (hx : PrAt w x .nilIface b) (hP : HasG w 4 h i k inw) :
    Calls Tryz.prog 32 #[x] w (Stuck w) := by
  subst hk
  have hh : Calls Tryz.prog 73 #[x, psg h 0 k inw] w (Stuck w) := by
    clear hP
    obtain ⟨g, rfl, hg⟩ := hx
    have cp := fun W => peel_bare (.iface 107 (.pointer (some ⟨g, 0, none⟩))) h W (nw_pair _) (.inr ⟨_, _, rfl⟩)
    have cP := fun la lc u w => pass_nil la 0 lc 107 u h 0 k inw w
    have ha := ta_pair
    have HG : Aside _ := hg
    clear hg
    unfold psg Stuck at *
    go_enter Tryz.func73, Tryz.ntmps73
    go_wp2_with fail
    refine (cp _).mono ?_
    rintro e w1 ⟨a1, c1, rfl, hB1⟩
    have hB2 := fun o => below_b (below_b (al_bv w _) hB1) (al_bv w1 o)
    have hpb := fun o => blk_keep (blk_keep (heap_alloc_new w (.cells #[.int .u8 h, .int .i64 (((0 : Nat)) : Int), .int .i64 (k : Int), .bool inw] 142)) hB1) (al_bv w1 o)
    have q0 := fun o => (ptr_block (hpb o)).1 0
    have q1 := fun o => (ptr_block (hpb o)).1 1
    have q2 := fun o => (ptr_block (hpb o)).1 2
    have q3 := fun o => (ptr_block (hpb o)).1 3
    have r0 := fun o => (ptr_block (blk_keep HG.out (hB2 o))).1 0
    clear hpb hB1
    go_wp2_with fail
    refine (cP _ _ _ _).mono ?_
    rintro e w3 ⟨rfl, hB3⟩
    go_wp2_with fail
    go_ret3
    exact ⟨rfl, below_b (hB2 _) hB3⟩
  obtain ⟨⟨c0, c1, c2, c3⟩, -⟩ := hP
  obtain ⟨g, rfl, -⟩ := hx
  unfold psg Stuck at *
  go_enter Tryz.func32, Tryz.ntmps32
  go_wp2_with (go_at_call 73; refine hh.mono ?_; rintro e w1 ⟨rfl, hB1⟩)
  go_ret3
  exact ⟨rfl, hB1⟩
theorem tx_i : tx .ti = ⟨#[105]⟩ := rfl
theorem tx_q : tx .tq = ⟨#[63]⟩ := rfl
set_option maxHeartbeats 800000 in
theorem Cast_nil (w : World) : Calls Tryz.prog 20 #[.nilIface, .string ⟨#[105]⟩, .string ⟨#[63]⟩, .int .i64 1] w (Stuck w) := by
  have ce := castError_yes .ti .tq (by decide) (by decide) 1 w
  rw [tx_i, tx_q, show cErr .ti .tq 1 = 0 from by decide] at ce
  unfold Stuck at *
  go_enter Tryz.func20, Tryz.ntmps20
  go_wp2_with (go_at_call 66; refine ce.mono ?_; rintro e w1 ⟨rfl, hB1⟩)
  go_ret3
  exact ⟨rfl, hB1⟩
set_option maxHeartbeats 800000 in
theorem Cast_bad (n : Int) (w : World) : Calls Tryz.prog 20 #[.nilIface, .string ⟨#[122]⟩, .string ⟨#[105]⟩, .int .i64 n] w fun e w' => e = .returned (.tuple #[.nilIface, .int .i64 0, .int .i64 20]) ∧ w' = w := by
  have ce := castError_no ⟨#[122]⟩ ⟨#[105]⟩ (by decide) n w
  go_enter Tryz.func20, Tryz.ntmps20
  go_wp2_with (go_at_call 66; refine ce.mono ?_; rintro e w1 ⟨rfl, hw1⟩; replace hw1 := hw1.symm; subst hw1)
  go_ret3
  exact ⟨rfl, rfl⟩
end Go.Proofs.YtkmoeflodafoeaaGreatDoor.Vl
