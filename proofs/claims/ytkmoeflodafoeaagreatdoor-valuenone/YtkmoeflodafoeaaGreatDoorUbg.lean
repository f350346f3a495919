/- Package value: Tail of a list that has no rest. -/
import Derived.Test.YtkmoeflodafoeaaGreatDoorUbf
import Derived.Test.YtkmoeflodafoeaaGreatDoorUan
namespace Go.Proofs.YtkmoeflodafoeaaGreatDoor.Vl
open Go.RowKit
open T3.Tp (Ty)
set_option maxRecDepth 100000
set_option linter.unusedSimpArgs false
set_option linter.unusedVariables false
set_option maxHeartbeats 3200000 in
theorem full_cons (g : Nat) (a b : Value) (h : Int) (i k : Nat) (inw : Bool) (w : World) (hg : w.heap[g]? = some (.cells #[a, b] 112 (0, 0))) (hP : HasG w 5 h i k inw) :
    Calls Tryz.prog 74 #[.iface 110 (.pointer (some ⟨g, 0, none⟩))] w fun e w' => ∃ la lc, e = .returned (.tuple #[.agg #[.slice la 0 lc, .iface 110 (.pointer (some ⟨g, 0, none⟩))], .pointer (some ⟨g, 0, none⟩), .int .i64 0]) ∧ Below w.heap.size w w' := by
  have cp := fun W => peel_bare (.iface 110 (.pointer (some ⟨g, 0, none⟩))) h W (nw_cons _) (.inr ⟨_, _, rfl⟩)
  have cc := isEmpty_cons
  have ha := ta_cons1
  obtain ⟨⟨c0, -, -, -⟩, hgl⟩ := hP
  clear hg
  go_enter Tryz.func74, Tryz.ntmps74
  go_wp2_with fail
  refine (cp _).mono ?_
  rintro e w1 ⟨a1, c1, rfl, hB1⟩
  have hB2 := fun o => below_b (below_b (al_bv w _) hB1) (al_bv w1 o)
  have hpb := fun o => blk_keep (blk_keep (heap_alloc_new w (.cells #[.slice none 0 0, .nilIface] 147)) hB1) (al_bv w1 o)
  have hnb := fun o => heap_alloc_new w1 o
  have hlt1 : w.heap.size < w1.heap.size := (Array.getElem?_eq_some_iff.1 (blk_keep (heap_alloc_new w (.cells #[.slice none 0 0, .nilIface] 147)) hB1)).1
  have HPB : Aside _ := hpb
  have HNB : Aside _ := hnb
  clear hpb hnb hB1
  go_wp2_with (go_at_call 137; refine (cc _ _).mono ?_; rintro e w2 ⟨rfl, hw2⟩; replace hw2 := hw2.symm; subst hw2)
  generalize hW3 : w1.alloc (.cells #[.slice a1 0 c1, .iface 110 (.pointer (some ⟨g, 0, none⟩))] 147) = w3 at *
  have hb3 : Below w.heap.size w w3 := by rw [← hW3]; exact hB2 _
  have hx3 : w3.heap[w.heap.size]? = some (.cells #[.slice none 0 0, .nilIface] 147 (0, 0)) := by rw [← hW3]; exact HPB.out _
  have hy3 : w3.heap[w1.heap.size]? = some (.cells #[.slice a1 0 c1, .iface 110 (.pointer (some ⟨g, 0, none⟩))] 147 (0, 0)) := by rw [← hW3]; exact HNB.out _
  clear hW3 hB2 HPB HNB
  have q0 := (ptr_block hx3).1 0
  have q1 := (ptr_block hx3).1 1
  have f0 := (ptr_block hx3).2.1 0
  have f1 := (ptr_block hx3).2.1 1
  have r0 := (ptr_block hy3).1 0
  have r1 := (ptr_block hy3).1 1
  go_region
  go_wp2_with fail
  obtain ⟨W9, hW9⟩ : ∃ W9, W9 = ((w3.setCell ⟨w.heap.size, 0, none⟩ (.slice a1 0 c1)).setCell ⟨w.heap.size, 1, none⟩ (.iface 110 (.pointer (some ⟨g, 0, none⟩)))).drew := ⟨_, rfl⟩
  have hR9 : W9.heap[w.heap.size]? = some (.cells #[.slice a1 0 c1, .iface 110 (.pointer (some ⟨g, 0, none⟩))] 147 (0, 0)) := by
    have := set_blk (set_blk hx3 0 (.slice a1 0 c1)) 1 (.iface 110 (.pointer (some ⟨g, 0, none⟩)))
    simp only [List.setIfInBounds_toArray, List.set_cons_zero, List.set_cons_succ] at this
    rw [hW9]; exact this
  have hB9 : Below w.heap.size w W9 := by rw [hW9]; exact ((hb3.setCell (Nat.le_refl _) _).setCell (Nat.le_refl _) _).drew
  rw [← hW9]
  have s0 := (ptr_block hR9).1 0
  have s1 := (ptr_block hR9).1 1
  clear hW9 hR9 q0 q1 f0 f1 r0 r1
  refine bodyPost_ret (v := .tuple #[.agg #[.slice a1 0 c1, .iface 110 (.pointer (some ⟨g, 0, none⟩))], .pointer (some ⟨g, 0, none⟩), .int .i64 0]) (by simp [results, Tryz.results74, go_sem, s0, s1]) rfl ?_
  exact ⟨_, _, rfl, hB9⟩
set_option maxHeartbeats 3200000 in
/-- The rest of a list that has none. -/
theorem Tail_nil (x a : Value) (h : Int) (i k : Nat) (inw : Bool) (w : World) (hx : CnAt w x a .nilIface) (hP : HasG w 5 h i k inw) :
    Calls Tryz.prog 33 #[x] w (Stuck w) := by
  obtain ⟨g, rfl, hg⟩ := hx
  have cf := full_cons g a .nilIface h i k inw w hg hP
  have cr := fun la lc (W : World) => rewrap_nil la 0 lc 110 (.pointer (some ⟨g, 0, none⟩)) W
  have HG : Aside (w.heap[g]? = some (.cells #[a, .nilIface] 112 (0, 0))) := hg
  unfold Stuck at *
  clear hP hg
  go_enter Tryz.func33, Tryz.ntmps33
  go_upto_region 4 with (go_at_call 74; refine cf.mono ?_; rintro e w1 ⟨la, lc, rfl, hB1⟩)
  obtain ⟨w2, hw2⟩ : ∃ w2, w2 = w1.alloc (.cells #[.slice la 0 lc, .iface 110 (.pointer (some ⟨g, 0, none⟩))] 147) := ⟨_, rfl⟩
  have HB2 : Aside (Below w.heap.size w w2) := by rw [hw2]; exact below_b hB1 (al_bv _ _)
  have HR : Aside (w2.heap[w1.heap.size]? = some (.cells #[.slice la 0 lc, .iface 110 (.pointer (some ⟨g, 0, none⟩))] 147 (0, 0))) := by rw [hw2]; exact heap_alloc_new _ _
  rw [← hw2]
  have HG2 : Aside (w2.heap[g]? = some (.cells #[a, .nilIface] 112 (0, 0))) := blk_keep HG.out HB2.out
  generalize w1.heap.size = B at *
  clear hw2 hB1 cf
  refine V.wp_region_V (fun W => Below w2.heap.size w2 W) (by kernel_rfl) ?_
  have hS0 : Below w2.heap.size w2 w2.drew := (Below.refl _ _).drew
  generalize w2.drew = wd at *
  have hne9 : Nonempty (Cls (fun W => Below w2.heap.size w2 W)) := ⟨⟨w2, Below.refl _ _⟩⟩
  have z0 : ∀ z : Cls (fun W => Below w2.heap.size w2 W), z.w.cell? ⟨B, 0, none⟩ = some (.slice la 0 lc) := fun z => (ptr_block (blk_keep HR.out z.h)).1 0
  have z1 : ∀ z : Cls (fun W => Below w2.heap.size w2 W), z.w.cell? ⟨B, 1, none⟩ = some (.iface 110 (.pointer (some ⟨g, 0, none⟩))) := fun z => (ptr_block (blk_keep HR.out z.h)).1 1
  have z2 : ∀ z : Cls (fun W => Below w2.heap.size w2 W), z.w.cell? ⟨g, 1, none⟩ = some .nilIface := fun z => (ptr_block (blk_keep HG2.out z.h)).1 1
  have HS0 : Aside (Below w2.heap.size w2 wd) := hS0
  refine V.wpAnyV.quiet (by kernel_rfl) (fun _ _ _ _ _ h => h) hS0 [0, 1, 2, 3, 4] 7 _ _ (by kernel_rfl) ?_
  clear hS0
  simp only [V.pickL, List.filterMap_cons, List.filterMap_nil, List.getElem?_toArray, List.getElem?_cons_zero, List.getElem?_cons_succ]
  repeat (show wpQuiet _ _ _ _ (_ :: _) _; go_big_quiet_step (fail))
  refine wpQuiet_nil ?_
  clear z0 z1 z2 hne9
  refine V.wpAnyV.event 5 (by kernel_rfl) rfl ?_
  go_wp2_with fail
  refine (cr _ _ _).mono ?_
  rintro e w3 ⟨rfl, hB3⟩
  go_wp2_with fail
  refine ⟨fun W => Below w2.heap.size w2 W, fun _ h => h, HS0.out.trans (hB3.mono HS0.out.size), ?_⟩
  have hS3 : Below w2.heap.size w2 w3 := HS0.out.trans (hB3.mono HS0.out.size)
  have HS3 : Aside (Below w2.heap.size w2 w3) := hS3
  have hne9 : Nonempty (Cls (fun W => Below w2.heap.size w2 W)) := ⟨⟨w2, Below.refl _ _⟩⟩
  refine V.wpAnyV.quiet (by kernel_rfl) (fun _ _ _ _ _ h => h) hS3 [6, 7, 8, 9, 10, 11] 0 _ _ (by kernel_rfl) ?_
  clear hS3
  simp only [V.pickL, List.filterMap_cons, List.filterMap_nil, List.getElem?_toArray, List.getElem?_cons_zero, List.getElem?_cons_succ]
  repeat (show wpQuiet _ _ _ _ (_ :: _) _; go_big_quiet_step (fail))
  refine wpQuiet_nil ?_
  clear hne9
  refine V.wpAnyV.done (by kernel_rfl) ?_
  refine NoPanic.normal ?_
  go_wp2_with fail
  go_ret3
  exact ⟨rfl, HB2.out.trans (HS3.out.mono HB2.out.size)⟩
end Go.Proofs.YtkmoeflodafoeaaGreatDoor.Vl
