/- Package value: nil parts: Wrap, Head, Tail, Seen. -/
import Derived.Test.YtkmoeflodafoeaaGreatDoorUaz
import Derived.Test.YtkmoeflodafoeaaGreatDoorUbb
import Derived.RegionTactic
import Derived.ChangeAlike
namespace Go.Proofs.YtkmoeflodafoeaaGreatDoor.Vl
open Go.RowKit
open T3.Tp (Ty)
set_option maxRecDepth 100000
set_option linter.unusedSimpArgs false
set_option linter.unusedVariables false
theorem tn_merged (w : World) : (Instr.typeAssert .nilIface 26 221 true).run Tryz.prog w = .ok (.tuple #[.pointer none, .bool false]) w := by kernel_rfl
set_option maxHeartbeats 400000 in
theorem Wrap_nil (w : World) : Calls Tryz.prog 36 #[.nilIface] w fun e w' => e = .returned (.tuple #[.slice none 0 0, .nilIface, .bool false]) ∧ w' = w := by
  have cm : Calls Tryz.prog 78 #[.nilIface] w fun e w' => e = .returned (.tuple #[.slice none 0 0, .nilIface, .bool false]) ∧ w' = w := by
    have h := tn_merged
    go_enter Tryz.func78, Tryz.ntmps78
    go_wp2
    go_ret3
    exact ⟨rfl, rfl⟩
  have cc : Calls Tryz.prog 79 #[.slice none 0 0] w fun e w' => e = .returned (.slice none 0 0) ∧ w' = w := by
    have h : ∀ w, (binOp .eql 41 (.slice none 0 0) (.slice none 0 0)).run Tryz.prog w = .ok (.bool true) w := fun w => by kernel_rfl
    go_enter Tryz.func79, Tryz.ntmps79
    go_wp2
    go_ret
    exact ⟨rfl, rfl⟩
  go_enter Tryz.func36, Tryz.ntmps36
  go_wp2_with (first | (go_at_call 78; refine cm.mono ?_; rintro e w1 ⟨rfl, hw1⟩; replace hw1 := hw1.symm; subst hw1) | (go_at_call 79; refine cc.mono ?_; rintro e w2 ⟨rfl, hw2⟩; replace hw2 := hw2.symm; subst hw2))
  go_ret3
  exact ⟨rfl, rfl⟩
set_option maxHeartbeats 400000 in
theorem isEmpty_nil (w : World) : Calls Tryz.prog 137 #[.nilIface] w fun e w' => e = .returned (.tuple #[.bool false, .int .i64 32]) ∧ w' = w := by
  have h1 := tn_empty
  have h2 := tn_cons
  go_enter Tryz.func137, Tryz.ntmps137
  go_wp2
  go_ret2
  exact ⟨rfl, rfl⟩
set_option maxHeartbeats 400000 in
theorem isEmpty_cons (u : Value) (w : World) : Calls Tryz.prog 137 #[.iface 110 u] w fun e w' => e = .returned (.tuple #[.bool false, .int .i64 0]) ∧ w' = w := by
  have h1 := tc_empty
  have h2 := ta_cons
  go_enter Tryz.func137, Tryz.ntmps137
  go_wp2
  go_ret2
  exact ⟨rfl, rfl⟩
set_option maxHeartbeats 1600000 in
theorem full_nil (h : Int) (i k : Nat) (inw : Bool) (w : World) (hP : HasG w 5 h i k inw) :
    Calls Tryz.prog 74 #[.nilIface] w fun e w' => e = .returned (.tuple #[.agg #[.slice none 0 0, .nilIface], .pointer none, .int .i64 32]) ∧ Below w.heap.size w w' := by
  have cp := fun W => peel_bare .nilIface h W nw_nil (.inl rfl)
  have cc := isEmpty_nil
  have HP : Aside (HasG w 5 h i k inw) := hP
  obtain ⟨⟨c0, -, -, -⟩, hgl⟩ := hP
  go_enter Tryz.func74, Tryz.ntmps74
  go_wp2_with fail
  refine (cp _).mono ?_
  rintro e w1 ⟨a1, c1, rfl, hB1⟩
  have hB2 := fun o => below_b (below_b (al_bv w _) hB1) (al_bv w1 o)
  have hpb := fun o => blk_keep (blk_keep (heap_alloc_new w (.cells #[.slice none 0 0, .nilIface] 147)) hB1) (al_bv w1 o)
  have q0 := fun o => (ptr_block (hpb o)).1 0
  have q1 := fun o => (ptr_block (hpb o)).1 1
  have q2 := fun o => (ptr_block (hpb o)).2.1
  have q3 := fun o => (ptr_block (hpb o)).2.2
  have HPB : Aside _ := hpb
  clear hpb hB1
  go_wp2_with (go_at_call 137; refine (cc _).mono ?_; rintro e w2 ⟨rfl, hw2⟩; replace hw2 := hw2.symm; subst hw2)
  obtain ⟨W9, hW9⟩ : ∃ W9, W9 = ((w1.alloc (.cells #[.slice a1 0 c1, .nilIface] 147)).setCell ⟨w.heap.size, 0, none⟩ (.slice none 0 0)).setCell ⟨w.heap.size, 1, none⟩ .nilIface := ⟨_, rfl⟩
  have hR9 : W9.heap[w.heap.size]? = some (.cells #[.slice none 0 0, .nilIface] 147 (0, 0)) := by
    have := set_blk (set_blk (HPB.out (.cells #[.slice a1 0 c1, .nilIface] 147)) 0 (.slice none 0 0)) 1 .nilIface
    rw [hW9]; simpa using this
  have hB9 : Below w.heap.size w W9 := by rw [hW9]; exact ((hB2 _).setCell (Nat.le_refl _) _).setCell (Nat.le_refl _) _
  rw [← hW9]
  have r0 := (ptr_block hR9).1 0
  have r1 := (ptr_block hR9).1 1
  clear hW9 hR9 q0 q1 q2 q3
  refine bodyPost_ret (v := .tuple #[.agg #[.slice none 0 0, .nilIface], .pointer none, .int .i64 32]) (by simp [results, Tryz.results74, go_sem, r0, r1]) rfl ?_
  exact ⟨rfl, hB9⟩
set_option maxHeartbeats 800000 in
theorem Head_nil (h : Int) (i k : Nat) (inw : Bool) (w : World) (hP : HasG w 5 h i k inw) :
    Calls Tryz.prog 34 #[.nilIface] w (Stuck w) := by
  have cf := full_nil h i k inw w hP
  unfold Stuck at *
  clear hP
  go_enter Tryz.func34, Tryz.ntmps34
  go_wp2_with (go_at_call 74; refine cf.mono ?_; rintro e w1 ⟨rfl, hB1⟩)
  go_ret3
  exact ⟨rfl, below_b hB1 (al_bv _ _)⟩
end Go.Proofs.YtkmoeflodafoeaaGreatDoor.Vl
