/- HeapNone: the law's walk. -/
import Derived.Test.YtnnmmnpnjppbhaaDoorVaI
namespace Go.Proofs.YtnnmmnpnjppbhaaDoor.Vl
open Go.RowKit
open T3.Tp (Ty)
set_option maxRecDepth 100000
set_option linter.unusedSimpArgs false
set_option linter.unusedVariables false
theorem cast_box (T : TypeId) (u : Value) (w : World) : Calls Tryd.prog 17 #[.iface T u, .string ⟨#[120, 105]⟩, .string ⟨#[120, 63]⟩, .int .i64 1] w fun e w' => ∃ x, e = .returned (.tuple #[x, .int .i64 0, .int .i64 0]) ∧ RcAt w' x (.iface T u) (tx (.tx .ti)) (tx (.tx .tq)) 1 ∧ Below w.heap.size w w' :=
  cast_of _ T u rfl (.tx .ti) (.tx .tq) (by decide) (by decide) 1 (by decide) (by decide) w fun W hW => (castBy_rc T u (tx (.tx .ti)) (tx (.tx .tq)) (by rw [T3.toList_S, T3.toList_S]; decide) (by rw [T3.toList_S]; decide) (by rw [T3.toList_S]; decide) 1 W).mono (by
    rintro e w' ⟨x, rfl, hx, hB⟩
    exact ⟨_, _, _, rfl, x, rfl, hx, hW.trans (hB.mono hW.size)⟩)
theorem cast_num (n : Int) (w : World) : Calls Tryd.prog 17 #[nm n, .string ⟨#[105]⟩, .string ⟨#[63]⟩, .int .i64 2] w fun e w' => ∃ x, e = .returned (.tuple #[x, .int .i64 0, .int .i64 0]) ∧ TgAt w' x (nm n) 105 ∧ Below w.heap.size w w' :=
  cast_of _ _ _ rfl .ti .tq (by decide) (by decide) 2 (by decide) (by decide) w fun W hW => (castBy_tag _ _ 105 (.inl rfl) 2 W).mono (by
    rintro e w' ⟨x, rfl, hx, hB⟩
    exact ⟨_, _, _, rfl, x, rfl, hx, hW.trans (hB.mono hW.size)⟩)
set_option maxHeartbeats 3200000 in
theorem works15_any (w : World) (hR : HasP w 0 0 0 false) (hS : HasP w 1 0 1 true) :
    Calls Tryd.prog 10 #[] w fun e w' => e = .returned (.bool true) ∧ Below w.heap.size w w' := by
  have HPR : Aside (∀ W, Below w.heap.size w W → HasP W 0 0 0 false) := fun W hW => hR.below hW hR.2
  have HPS : Aside (∀ W, Below w.heap.size w W → HasP W 1 0 1 true) := fun W hW => hS.below hW hS.2
  clear hR hS
  go_enter Tryd.func10, Tryd.ntmps10
  go_wp2_with fail
  refine (New_any w).mono ?_
  rintro e w1 ⟨rfl, hH1, hB1⟩
  have hHb : w.heap.size ≤ w.heap.size := Nat.le_refl _
  go_wp2_with fail
  refine (Num_any 5 _).mono ?_
  rintro e w1' ⟨rfl, hw1⟩
  replace hw1 := hw1.symm
  subst hw1
  go_wp2_with fail
  refine (Make_any w.heap.size 0 (by decide) _ _ w1 hH1 w.heap.size (Nat.le_refl _)).mono ?_
  rintro e w2 ⟨b, cb, rfl, hH2, hC2, hX2, hlt, hB2⟩
  obtain ⟨gb, rfl, hgb⟩ := hX2
  have hB2 : Below w.heap.size w w2 := hB1.trans hB2
  clear hB1 hH1
  go_wp2_with fail
  refine (cast_box _ _ w2).mono ?_
  rintro e w3 ⟨c, rfl, hc3, hB3⟩
  go_wp2_with fail
  refine (Num_any 7 _).mono ?_
  rintro e w3' ⟨rfl, hw3⟩
  replace hw3 := hw3.symm
  subst hw3
  go_wp2_with fail
  refine (cast_num 7 w3).mono ?_
  rintro e w4 ⟨sv, rfl, hs4, hB4⟩
  have hB24 := below_b hB3 hB4
  have hB4' : Below w.heap.size w w4 := hB2.trans (hB24.mono hB2.size)
  have hsz4 := hB4'.size
  have hX4 : BxAt w4 (.iface 51 (.pointer (some ⟨gb, 0, none⟩))) (clv cb) := ⟨gb, rfl, blk_keep hgb hB24⟩
  have hC4 : ClAt w4 cb w.heap.size (nm 5) := blk_keep hC2 hB24
  go_wp2_with fail
  refine (Set_made w.heap.size cb (0 + 1) 5 7 c _ sv w4 (blk_keep hH2 hB24) hC4 (hc3.below hB4) hX4 hs4 (HPS.out w4 hB4') (by omega) w.heap.size (by omega) hsz4).mono ?_
  rintro e w5 ⟨rfl, hH5, hC5, hk5, hB5⟩
  have hgc : gb ≠ cb := by
    rintro rfl
    have h1 := blk_keep hgb hB24
    rw [hC4] at h1
    simp at h1
  have hX5 : BxAt w5 (.iface 51 (.pointer (some ⟨gb, 0, none⟩))) (clv cb) := ⟨gb, rfl, hk5 gb _ (blk_keep hgb hB24) hgc⟩
  have hB5' : Below w.heap.size w w5 := hB4'.trans hB5
  clear hk5 hX4 hC4 hc3 hs4 hgb hC2 hH2
  go_wp2_with fail
  refine (Get_made w.heap.size cb (0 + 1) 7 _ w5 hH5 hC5 hX5 (HPR.out w5 hB5')).mono ?_
  rintro e w6 ⟨rfl, hB6⟩
  have hB6' : Below w.heap.size w w6 := hB5'.trans (hB6.mono hB5'.size)
  have hH6 : HpAt w6 w.heap.size true 1 := blk_keep hH5 hB6
  go_wp2_with fail
  refine (AsNum_any 7 w6).mono ?_
  rintro e w6' ⟨rfl, hw6⟩
  replace hw6 := hw6.symm
  subst hw6
  go_wp2_with fail
  refine (Size_any w.heap.size 1 w6 hH6).mono ?_
  rintro e w6' ⟨rfl, hw6⟩
  replace hw6 := hw6.symm
  subst hw6
  go_wp2_with fail
  go_ret
  exact ⟨rfl, hB6'⟩
set_option maxHeartbeats 3200000 in
theorem heapNone_any (n : Int) (w : World) (hR : HasP w 0 0 0 false) (hS : HasP w 1 0 1 true) :
    Calls Tryd.prog 3 #[.int .i64 n] w fun e w' => e = .returned (.bool true) ∧ Below w.heap.size w w' := by
  have cw := fun (W : World) (hW : Below w.heap.size w W) => (works15_any W (hR.below hW hR.2) (hS.below hW hS.2)).mono (R' := fun e w' => e = .returned (.bool true) ∧ Below w.heap.size w w') (by rintro e w' ⟨rfl, hB⟩; exact ⟨rfl, hW.trans (hB.mono hW.size)⟩)
  obtain ⟨w1, hw1⟩ : ∃ w1, w1 = w.alloc (.cells #[.bool false, .int .i64 0] 24) := ⟨_, rfl⟩
  have hH : HpAt w1 w.heap.size false 0 := by rw [hw1]; exact heap_alloc_new _ _
  have hB : Below w.heap.size w w1 := by rw [hw1]; exact al_bv _ _
  have u0 := un_nil w1
  have u1 := un_plain w1 w.heap.size 0 hH
  have c1 := Make_un (.pointer none) none rfl 44 (.int .i64 n) w1 u0
  have c2 := Get_un (.pointer (some ⟨w.heap.size, 0, none⟩)) (nm n) _ rfl w1 u1
  have c3 := Set_un (.pointer none) (nm n) .nilIface none rfl w1 u0
  have c4 := Same_un (.pointer (some ⟨w.heap.size, 0, none⟩)) .nilIface .nilIface _ rfl w1 u1
  have c5 := Size_un (.pointer none) none rfl w1 u0
  have c6 := Size_un (.pointer (some ⟨w.heap.size, 0, none⟩)) _ rfl w1 u1
  have cn := Num_any n
  have cw := cw w1 hB
  clear hR hS u0 u1 hH
  unfold nm at *
  go_enter Tryd.func3, Tryd.ntmps3
  go_upto_region 3 with fail
  rw [← hw1]
  clear hw1
  generalize hBq : w.heap.size = B at *
  go_wp2_with (first | (go_at_call 5; refine (cn _).mono ?_; rintro e w2 ⟨rfl, hw2⟩; replace hw2 := hw2.symm; subst hw2) | (go_at_call 4; with_reducible refine c1.mono ?_; rintro e w2 ⟨rfl, hw2⟩; replace hw2 := hw2.symm; subst hw2) | (go_at_call 6; with_reducible refine c2.mono ?_; rintro e w2 ⟨rfl, hw2⟩; replace hw2 := hw2.symm; subst hw2) | (go_at_call 7; with_reducible refine c3.mono ?_; rintro e w2 ⟨rfl, hw2⟩; replace hw2 := hw2.symm; subst hw2) | (go_at_call 8; with_reducible refine c4.mono ?_; rintro e w2 ⟨rfl, hw2⟩; replace hw2 := hw2.symm; subst hw2) | (go_at_call 9; with_reducible refine c5.mono ?_; rintro e w2 ⟨rfl, hw2⟩; replace hw2 := hw2.symm; subst hw2; clear c5) | (go_at_call 9; with_reducible refine c6.mono ?_; rintro e w2 ⟨rfl, hw2⟩; replace hw2 := hw2.symm; subst hw2; clear c6) | (go_at_call 10; refine cw.mono ?_; rintro e w3 ⟨rfl, hB3⟩))
  go_ret
  exact ⟨rfl, by rw [hBq]; exact hB3⟩
end Go.Proofs.YtnnmmnpnjppbhaaDoor.Vl
