/- Package value: nil parts: each, pass, rewrap, codeOf, cellOf, through. -/
import Derived.Test.YtkmoeflodafoeaaGreatDoorUax
namespace Go.Proofs.YtkmoeflodafoeaaGreatDoor.Vl
open Go.RowKit
open T3.Tp (Ty)
set_option maxRecDepth 100000
set_option linter.unusedSimpArgs false
set_option linter.unusedVariables false
theorem nw_nil : NotWr .nilIface := fun w => by kernel_rfl
theorem nw_fun0 (u : Value) (w : World) : (Instr.typeAssert (.iface 133 u) 26 216 true).run Tryz.prog w = .ok (.tuple #[.nilIface, .bool false]) w := run_typeAssert_lacksB Tryz.underlying216 (by kernel_rfl) (by kernel_rfl) u _ w
theorem nw_fun (u : Value) : NotWr (.iface 133 u) := nw_fun0 u
theorem nw_pair0 (u : Value) (w : World) : (Instr.typeAssert (.iface 107 u) 26 216 true).run Tryz.prog w = .ok (.tuple #[.nilIface, .bool false]) w := run_typeAssert_lacksB Tryz.underlying216 (by kernel_rfl) (by kernel_rfl) u _ w
theorem nw_pair (u : Value) : NotWr (.iface 107 u) := nw_pair0 u
theorem nw_cons0 (u : Value) (w : World) : (Instr.typeAssert (.iface 110 u) 26 216 true).run Tryz.prog w = .ok (.tuple #[.nilIface, .bool false]) w := run_typeAssert_lacksB Tryz.underlying216 (by kernel_rfl) (by kernel_rfl) u _ w
theorem nw_cons (u : Value) : NotWr (.iface 110 u) := nw_cons0 u
theorem nw_num0 (u : Value) (w : World) : (Instr.typeAssert (.iface 139 u) 26 216 true).run Tryz.prog w = .ok (.tuple #[.nilIface, .bool false]) w := run_typeAssert_lacksB Tryz.underlying216 (by kernel_rfl) (by kernel_rfl) u _ w
theorem nw_num (u : Value) : NotWr (.iface 139 u) := nw_num0 u
/-- What is refused as stuck. -/
def Stuck (w : World) (e : Ending) (w' : World) : Prop := e = .returned (.tuple #[.nilIface, .int .i64 0, .int .i64 32]) ∧ Below w.heap.size w w'
set_option maxHeartbeats 800000 in
theorem each_nil (la : Option Addr) (n lc : Nat) (T : TypeId) (u : Value) (inw : Bool) (fv : Value) (w : World) :
    Calls Tryz.prog 138 #[.agg #[.slice la n lc, .iface T u], .nilIface, .bool inw, fv] w (Stuck w) := by
  go_enter Tryz.func138, Tryz.ntmps138
  go_wp2_with fail
  go_ret3
  exact ⟨rfl, al_bv _ _⟩
set_option maxHeartbeats 800000 in
theorem pass_nil (la : Option Addr) (n lc : Nat) (T : TypeId) (u : Value) (h : Int) (i k : Nat) (inw : Bool) (w : World) :
    Calls Tryz.prog 76 #[.agg #[.slice la n lc, .iface T u], .nilIface, psg h i k inw] w (Stuck w) := by
  have ce := fun fv w => each_nil la n lc T u inw fv w
  unfold psg Stuck at *
  go_enter Tryz.func76, Tryz.ntmps76
  go_wp2_with fail
  refine (ce _ _).mono ?_
  rintro e w1 ⟨rfl, hB1⟩
  go_wp2_with fail
  go_ret3
  exact ⟨rfl, below_b (below_b (al_bv _ _) (al_bv _ _)) hB1⟩
set_option maxHeartbeats 800000 in
theorem rewrap_nil (la : Option Addr) (n lc : Nat) (T : TypeId) (u : Value) (w : World) :
    Calls Tryz.prog 75 #[.agg #[.slice la n lc, .iface T u], .nilIface] w (Stuck w) := by
  have ce := fun fv w => each_nil la n lc T u false fv w
  unfold Stuck at *
  go_enter Tryz.func75, Tryz.ntmps75
  go_wp2_with fail
  refine (ce _ _).mono ?_
  rintro e w1 ⟨rfl, hB1⟩
  go_wp2_with fail
  go_ret3
  exact ⟨rfl, below_b (al_bv _ _) hB1⟩
/-- What peel answers of one that has no wrapper. -/
theorem peel_bare (x : Value) (h : Int) (w : World) (hn : NotWr x) (hi : Ifc x) :
    Calls Tryz.prog 136 #[x, .int .u8 h] w fun e w' => ∃ a c, e = .returned (.tuple #[.agg #[.slice a 0 c, x], .int .i64 0]) ∧ Below w.heap.size w w' :=
  (peel_any [] x x h w (.nil x) hn hi (by simp) (by simp)).mono (by
    rintro e w' ⟨v, rfl, hO, hB⟩
    obtain ⟨a, c, rfl⟩ := own_formv hO
    exact ⟨a, c, rfl, hB⟩)
theorem ta_fun (v : Value) (w : World) : (Instr.typeAssert (.iface 133 v) 26 133 true).run Tryz.prog w = .ok (.tuple #[v, .bool true]) w := by kernel_rfl
theorem tn_fun (w : World) : (Instr.typeAssert .nilIface 26 133 true).run Tryz.prog w = .ok (.tuple #[.pointer none, .bool false]) w := by kernel_rfl
theorem tn_box (w : World) : (Instr.typeAssert .nilIface 26 136 true).run Tryz.prog w = .ok (.tuple #[.pointer none, .bool false]) w := by kernel_rfl
theorem tn_cons (w : World) : (Instr.typeAssert .nilIface 26 110 true).run Tryz.prog w = .ok (.tuple #[.pointer none, .bool false]) w := by kernel_rfl
theorem tn_pair (w : World) : (Instr.typeAssert .nilIface 26 107 true).run Tryz.prog w = .ok (.tuple #[.pointer none, .bool false]) w := by kernel_rfl
theorem tn_empty (w : World) : (Instr.typeAssert .nilIface 26 157 true).run Tryz.prog w = .ok (.tuple #[.agg #[], .bool false]) w := by kernel_rfl
/-- A function of its own. -/
def FnAt (w : World) (x c : Value) : Prop := ∃ g, x = .iface 133 (.pointer (some ⟨g, 0, none⟩)) ∧ w.heap[g]? = some (.cells #[c] 135 (0, 0))
theorem FnAt.below {w w' : World} {x c : Value} (k : FnAt w x c) (hB : Below w.heap.size w w') : FnAt w' x c := by
  obtain ⟨g, e, hg⟩ := k
  exact ⟨g, e, blk_keep hg hB⟩
set_option maxHeartbeats 400000 in
theorem codeOf_any (x c : Value) (w : World) (k : FnAt w x c) : Calls Tryz.prog 71 #[x] w fun e w' => e = .returned (.tuple #[c, .int .i64 0]) ∧ w' = w := by
  obtain ⟨g, rfl, hg⟩ := k
  have c0 : w.cell? ⟨g, 0, none⟩ = some c := (ptr_block hg).1 0
  have ha := ta_fun
  clear hg
  go_enter Tryz.func71, Tryz.ntmps71
  go_wp2
  go_ret2
  exact ⟨rfl, rfl⟩
set_option maxHeartbeats 400000 in
theorem codeOf_nil (w : World) : Calls Tryz.prog 71 #[.nilIface] w fun e w' => e = .returned (.tuple #[.nilIface, .int .i64 32]) ∧ w' = w := by
  have ha := tn_fun
  go_enter Tryz.func71, Tryz.ntmps71
  go_wp2
  go_ret2
  exact ⟨rfl, rfl⟩
set_option maxHeartbeats 400000 in
theorem cellOf_nil (w : World) : Calls Tryz.prog 72 #[.nilIface] w fun e w' => e = .returned (.tuple #[.nilIface, .int .i64 32]) ∧ w' = w := by
  have ha := tn_box
  go_enter Tryz.func72, Tryz.ntmps72
  go_wp2
  go_ret2
  exact ⟨rfl, rfl⟩
set_option maxHeartbeats 1600000 in
theorem through_code_nil (x c : Value) (h : Int) (i k : Nat) (inw : Bool) (w : World) (hx : FnAt w x c) :
    Calls Tryz.prog 70 #[x, .nilIface, psg h i k inw, .func (.func 71) #[] #[]] w (Stuck w) := by
  have cc : ∀ W, Below w.heap.size w W → Calls Tryz.prog 71 #[x] W fun e w' => e = .returned (.tuple #[c, .int .i64 0]) ∧ w' = W := fun W hW => codeOf_any x c W (hx.below hW)
  obtain ⟨g, rfl, -⟩ := hx
  have cp := fun W => peel_bare (.iface 133 (.pointer (some ⟨g, 0, none⟩))) h W (nw_fun _) (.inr ⟨_, _, rfl⟩)
  have cP := fun la lc u w => pass_nil la 0 lc 133 u h i k inw w
  unfold psg Stuck at *
  go_enter Tryz.func70, Tryz.ntmps70
  go_wp2_with fail
  refine (cp _).mono ?_
  rintro e w1 ⟨a1, c1, rfl, hB1⟩
  have hB2 := fun o => below_b (below_b (al_bv w _) hB1) (al_bv w1 o)
  have hpb := fun o => blk_keep (blk_keep (heap_alloc_new w (.cells #[.int .u8 h, .int .i64 (i : Int), .int .i64 (k : Int), .bool inw] 142)) hB1) (al_bv w1 o)
  have q0 := fun o => (ptr_block (hpb o)).1 0
  have q1 := fun o => (ptr_block (hpb o)).1 1
  have q2 := fun o => (ptr_block (hpb o)).1 2
  have q3 := fun o => (ptr_block (hpb o)).1 3
  clear hpb hB1
  go_wp2_with (go_at_call 71; refine (cc _ (hB2 _)).mono ?_; rintro e w2 ⟨rfl, hw2⟩; replace hw2 := hw2.symm; subst hw2)
  refine (cP _ _ _ _).mono ?_
  rintro e w3 ⟨rfl, hB3⟩
  go_wp2_with fail
  go_ret3
  exact ⟨rfl, below_b (hB2 _) hB3⟩
set_option maxHeartbeats 1600000 in
theorem through_code_none (y : Value) (hy : Ifc y) (h : Int) (i k : Nat) (inw : Bool) (w : World) :
    Calls Tryz.prog 70 #[.nilIface, y, psg h i k inw, .func (.func 71) #[] #[]] w (Stuck w) := by
  have cc := codeOf_nil
  have cp := fun W => peel_bare .nilIface h W nw_nil (.inl rfl)
  unfold psg Stuck at *
  go_enter Tryz.func70, Tryz.ntmps70
  go_wp2_with (first | (go_at_call 136; refine (cp _).mono ?_; rintro e w1 ⟨a1, c1, rfl, hB1⟩; have hB2 := fun o => below_b (below_b (al_bv w _) hB1) (al_bv w1 o)) | (go_at_call 71; refine (cc _).mono ?_; rintro e w2 ⟨rfl, hw2⟩; replace hw2 := hw2.symm; subst hw2))
  go_ret3
  exact ⟨rfl, hB2 _⟩
set_option maxHeartbeats 1600000 in
theorem through_cell_nil (x c : Value) (h : Int) (i k : Nat) (inw : Bool) (w : World) (hx : BxAt w x c) :
    Calls Tryz.prog 70 #[x, .nilIface, psg h i k inw, .func (.func 72) #[] #[]] w (Stuck w) := by
  have cc : ∀ W, Below w.heap.size w W → Calls Tryz.prog 72 #[x] W fun e w' => e = .returned (.tuple #[c, .int .i64 0]) ∧ w' = W := fun W hW => cellOf_any x c W (hx.below hW)
  obtain ⟨g, rfl, -⟩ := hx
  have cp := fun W => peel_bare (.iface 136 (.pointer (some ⟨g, 0, none⟩))) h W (nw_box _) (.inr ⟨_, _, rfl⟩)
  have cP := fun la lc u w => pass_nil la 0 lc 136 u h i k inw w
  unfold psg Stuck at *
  go_enter Tryz.func70, Tryz.ntmps70
  go_wp2_with fail
  refine (cp _).mono ?_
  rintro e w1 ⟨a1, c1, rfl, hB1⟩
  have hB2 := fun o => below_b (below_b (al_bv w _) hB1) (al_bv w1 o)
  have hpb := fun o => blk_keep (blk_keep (heap_alloc_new w (.cells #[.int .u8 h, .int .i64 (i : Int), .int .i64 (k : Int), .bool inw] 142)) hB1) (al_bv w1 o)
  have q0 := fun o => (ptr_block (hpb o)).1 0
  have q1 := fun o => (ptr_block (hpb o)).1 1
  have q2 := fun o => (ptr_block (hpb o)).1 2
  have q3 := fun o => (ptr_block (hpb o)).1 3
  clear hpb hB1
  go_wp2_with (go_at_call 72; refine (cc _ (hB2 _)).mono ?_; rintro e w2 ⟨rfl, hw2⟩; replace hw2 := hw2.symm; subst hw2)
  refine (cP _ _ _ _).mono ?_
  rintro e w3 ⟨rfl, hB3⟩
  go_wp2_with fail
  go_ret3
  exact ⟨rfl, below_b (hB2 _) hB3⟩
set_option maxHeartbeats 1600000 in
theorem through_cell_none (y : Value) (hy : Ifc y) (h : Int) (i k : Nat) (inw : Bool) (w : World) :
    Calls Tryz.prog 70 #[.nilIface, y, psg h i k inw, .func (.func 72) #[] #[]] w (Stuck w) := by
  have cc := cellOf_nil
  have cp := fun W => peel_bare .nilIface h W nw_nil (.inl rfl)
  unfold psg Stuck at *
  go_enter Tryz.func70, Tryz.ntmps70
  go_wp2_with (first | (go_at_call 136; refine (cp _).mono ?_; rintro e w1 ⟨a1, c1, rfl, hB1⟩; have hB2 := fun o => below_b (below_b (al_bv w _) hB1) (al_bv w1 o)) | (go_at_call 72; refine (cc _).mono ?_; rintro e w2 ⟨rfl, hw2⟩; replace hw2 := hw2.symm; subst hw2))
  go_ret3
  exact ⟨rfl, hB2 _⟩
end Go.Proofs.YtkmoeflodafoeaaGreatDoor.Vl
