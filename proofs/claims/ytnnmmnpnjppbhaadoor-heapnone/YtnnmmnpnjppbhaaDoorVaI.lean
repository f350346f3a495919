/- Package heap: a box under a cast, got and set; HeapNone. -/
import Derived.Test.YtnnmmnpnjppbhaaDoorVaH
import Derived.Lib.Builder
namespace Go.Proofs.YtnnmmnpnjppbhaaDoor.Vl
open Go.RowKit
open T3.Tp (Ty)
set_option maxRecDepth 100000
set_option linter.unusedSimpArgs false
set_option linter.unusedVariables false
/-- A heap, in its block: whether New made it, how many cells it has. -/
def HpAt (w : World) (hb : Nat) (m : Bool) (n : Int) : Prop := w.heap[hb]? = some (.cells #[.bool m, .int .i64 n] 24 (0, 0))
set_option maxHeartbeats 400000 in
theorem isMade_nil (w : World) : Calls Tryd.prog 11 #[.pointer none] w fun e w' => e = .returned (.bool false) ∧ w' = w := by
  go_enter Tryd.func11, Tryd.ntmps11
  go_wp2
  go_ret
  exact ⟨rfl, rfl⟩
set_option maxHeartbeats 400000 in
theorem isMade_any (hb : Nat) (m : Bool) (n : Int) (w : World) (h : HpAt w hb m n) : Calls Tryd.prog 11 #[.pointer (some ⟨hb, 0, none⟩)] w fun e w' => e = .returned (.bool m) ∧ w' = w := by
  have c0 := (ptr_block h).1 0
  clear h
  go_enter Tryd.func11, Tryd.ntmps11
  go_wp2
  go_ret
  exact ⟨rfl, rfl⟩
/-- What isMade answers of this heap: false. -/
def Unmade (w : World) (h : Value) : Prop := ∀ W, Below w.heap.size w W → Calls Tryd.prog 11 #[h] W fun e w' => e = .returned (.bool false) ∧ w' = W
theorem un_nil (w : World) : Unmade w (.pointer none) := fun W _ => isMade_nil W
theorem un_plain (w : World) (hb : Nat) (n : Int) (h : HpAt w hb false n) : Unmade w (.pointer (some ⟨hb, 0, none⟩)) := fun W hW => isMade_any hb false n W (blk_keep h hW)
set_option maxHeartbeats 400000 in
theorem Make_un (h : Value) (a : Option Addr) (he : h = .pointer a) (T : TypeId) (u : Value) (w : World) (hu : Unmade w h) : Calls Tryd.prog 4 #[h, .iface T u] w fun e w' => e = .returned (.tuple #[.nilIface, .int .i64 1]) ∧ w' = w := by
  have hc := hu w (Below.refl _ _)
  subst he
  go_enter Tryd.func4, Tryd.ntmps4
  go_wp2_with (go_at_call 11; refine hc.mono ?_; rintro e w1 ⟨rfl, hw1⟩; replace hw1 := hw1.symm; subst hw1)
  go_ret2
  exact ⟨rfl, rfl⟩
set_option maxHeartbeats 400000 in
theorem cellOf_un (h v : Value) (a : Option Addr) (he : h = .pointer a) (w : World) (hu : Unmade w h) : Calls Tryd.prog 13 #[h, v] w fun e w' => e = .returned (.tuple #[.pointer none, .int .i64 1]) ∧ w' = w := by
  have hc := hu w (Below.refl _ _)
  subst he
  go_enter Tryd.func13, Tryd.ntmps13
  go_wp2_with (go_at_call 11; refine hc.mono ?_; rintro e w1 ⟨rfl, hw1⟩; replace hw1 := hw1.symm; subst hw1)
  go_ret2
  exact ⟨rfl, rfl⟩
set_option maxHeartbeats 400000 in
theorem Get_un (h v : Value) (a : Option Addr) (he : h = .pointer a) (w : World) (hu : Unmade w h) : Calls Tryd.prog 6 #[h, v] w fun e w' => e = .returned (.tuple #[.nilIface, .int .i64 0, .int .i64 1]) ∧ w' = w := by
  have hc := cellOf_un h v a he w hu
  subst he
  go_enter Tryd.func6, Tryd.ntmps6
  go_wp2_with (go_at_call 13; refine hc.mono ?_; rintro e w1 ⟨rfl, hw1⟩; replace hw1 := hw1.symm; subst hw1)
  go_ret3
  exact ⟨rfl, rfl⟩
set_option maxHeartbeats 400000 in
theorem Set_un (h v v' : Value) (a : Option Addr) (he : h = .pointer a) (w : World) (hu : Unmade w h) : Calls Tryd.prog 7 #[h, v, v'] w fun e w' => e = .returned (.tuple #[.int .i64 0, .int .i64 1]) ∧ w' = w := by
  have hc := cellOf_un h v a he w hu
  subst he
  go_enter Tryd.func7, Tryd.ntmps7
  go_wp2_with (go_at_call 13; refine hc.mono ?_; rintro e w1 ⟨rfl, hw1⟩; replace hw1 := hw1.symm; subst hw1)
  go_ret2
  exact ⟨rfl, rfl⟩
set_option maxHeartbeats 400000 in
theorem Same_un (h v v' : Value) (a : Option Addr) (he : h = .pointer a) (w : World) (hu : Unmade w h) : Calls Tryd.prog 8 #[h, v, v'] w fun e w' => e = .returned (.tuple #[.bool false, .int .i64 1]) ∧ w' = w := by
  have hc := cellOf_un h v a he w hu
  subst he
  go_enter Tryd.func8, Tryd.ntmps8
  go_wp2_with (go_at_call 13; refine hc.mono ?_; rintro e w1 ⟨rfl, hw1⟩; replace hw1 := hw1.symm; subst hw1)
  go_ret2
  exact ⟨rfl, rfl⟩
set_option maxHeartbeats 400000 in
theorem Size_un (h : Value) (a : Option Addr) (he : h = .pointer a) (w : World) (hu : Unmade w h) : Calls Tryd.prog 9 #[h] w fun e w' => e = .returned (.int .i64 0) ∧ w' = w := by
  have hc := hu w (Below.refl _ _)
  subst he
  go_enter Tryd.func9, Tryd.ntmps9
  go_wp2_with (go_at_call 11; refine hc.mono ?_; rintro e w1 ⟨rfl, hw1⟩; replace hw1 := hw1.symm; subst hw1)
  go_ret
  exact ⟨rfl, rfl⟩
set_option maxHeartbeats 400000 in
theorem Size_any (hb : Nat) (n : Int) (w : World) (h : HpAt w hb true n) : Calls Tryd.prog 9 #[.pointer (some ⟨hb, 0, none⟩)] w fun e w' => e = .returned (.int .i64 n) ∧ w' = w := by
  have hc := isMade_any hb true n w h
  have c1 := (ptr_block h).1 1
  clear h
  go_enter Tryd.func9, Tryd.ntmps9
  go_wp2_with (go_at_call 11; refine hc.mono ?_; rintro e w1 ⟨rfl, hw1⟩; replace hw1 := hw1.symm; subst hw1)
  go_ret
  exact ⟨rfl, rfl⟩
set_option maxHeartbeats 400000 in
theorem New_any (w : World) : Calls Tryd.prog 16 #[] w fun e w' => e = .returned (.pointer (some ⟨w.heap.size, 0, none⟩)) ∧ HpAt w' w.heap.size true 0 ∧ Below w.heap.size w w' := by
  go_enter Tryd.func16, Tryd.ntmps16
  go_wp2
  go_ret
  exact ⟨rfl, heap_alloc_new _ _, al_bv _ _⟩
set_option maxHeartbeats 400000 in
theorem Box_any (T : TypeId) (u : Value) (w : World) : Calls Tryd.prog 12 #[.iface T u] w fun e w' => ∃ x, e = .returned x ∧ BxAt w' x (.iface T u) ∧ Below w.heap.size w w' := by
  go_enter Tryd.func12, Tryd.ntmps12
  go_wp2
  go_ret
  exact ⟨_, rfl, ⟨_, rfl, heap_alloc_new _ _⟩, al_bv _ _⟩
/-- A cell of a heap. -/
def ClAt (w : World) (cb hb : Nat) (v : Value) : Prop := w.heap[cb]? = some (.cells #[.pointer (some ⟨hb, 0, none⟩), v] 43 (0, 0))
def clv (cb : Nat) : Value := .iface 41 (.pointer (some ⟨cb, 0, none⟩))
set_option maxHeartbeats 1600000 in
theorem Make_any (hb : Nat) (n : Int) (hn : 0 ≤ n ∧ n ≤ 1000) (T : TypeId) (u : Value) (w : World) (h : HpAt w hb true n) (B : Nat) (hB : B ≤ hb) :
    Calls Tryd.prog 4 #[.pointer (some ⟨hb, 0, none⟩), .iface T u] w fun e w' => ∃ x cb, e = .returned (.tuple #[x, .int .i64 0]) ∧ HpAt w' hb true (n + 1) ∧ ClAt w' cb hb (.iface T u) ∧ BxAt w' x (clv cb) ∧ hb < cb ∧ Below B w w' := by
  have hc := isMade_any hb true n w h
  obtain ⟨c, f, hl⟩ := ptr_block h
  have c1 := c 1
  have f1 := f 1
  have hwr : IntKind.i64.wrap (n + 1) = n + 1 := IntWalk.i64_in _ ⟨by omega, by omega⟩
  have cb := fun W => Box_any 41 (.pointer (some ⟨w.heap.size, 0, none⟩)) W
  obtain ⟨w2, hw2⟩ : ∃ w2, w2 = w.setCell ⟨hb, 1, none⟩ (.int .i64 (n + 1)) := ⟨_, rfl⟩
  have hs2 : w2.heap.size = w.heap.size := by rw [hw2]; simp [World.setCell]
  have hH2 : HpAt w2 hb true (n + 1) := by rw [hw2]; have := set_blk h 1 (.int .i64 (n + 1)); simpa [HpAt] using this
  have hB2 : Below B w w2 := by rw [hw2]; exact (Below.refl _ _).setCell hB _
  clear c f h
  go_enter Tryd.func4, Tryd.ntmps4
  go_wp2_with (go_at_call 11; refine hc.mono ?_; rintro e w1 ⟨rfl, hw1⟩; replace hw1 := hw1.symm; subst hw1)
  rw [← hw2]
  refine (cb _).mono ?_
  rintro e w4 ⟨x, rfl, hX, hB4⟩
  have hC2 := heap_alloc_new w2 (.cells #[.pointer (some ⟨hb, 0, none⟩), .iface T u] 43)
  have hb24 := below_b (al_bv w2 (.cells #[.pointer (some ⟨hb, 0, none⟩), .iface T u] 43)) hB4
  have HC : Aside (ClAt w4 w.heap.size hb (.iface T u)) := by
    have := blk_keep hC2 hB4
    rw [hs2] at this
    exact this
  have HH : Aside (HpAt w4 hb true (n + 1)) := blk_keep hH2 hb24
  have HX : Aside (BxAt w4 x (clv w.heap.size)) := hX
  have HB : Aside (Below B w w4) := hB2.trans (hb24.mono (by omega))
  clear hC2 hb24 hB4 hX hH2 hB2 hw2 hs2
  go_wp2_with fail
  go_ret2
  exact ⟨_, _, rfl, HH, HC, HX, hl, HB⟩
theorem infoHp : ∃ j, Tryd.prog.info? 24 = some j := by
  cases e : Tryd.prog.info? 24 with
  | none => exact absurd e (by
      have h : (Tryd.prog.info? 24).isSome = true := by kernel_rfl
      intro e; rw [e] at h; cases h)
  | some j => exact ⟨j, rfl⟩
theorem neq_hp (a : Addr) (w : World) : (binOp .neq 22 (.pointer (some a)) (.pointer (some a))).run Tryd.prog w = .ok (.bool false) w := by
  obtain ⟨j, hj⟩ := infoHp
  exact Lib.run_neq_ptr_same w a Tryd.underlying22 hj
theorem ta_cell (v : Value) (w : World) : (Instr.typeAssert (.iface 41 v) 20 41 true).run Tryd.prog w = .ok (.tuple #[v, .bool true]) w := by kernel_rfl
set_option maxHeartbeats 1600000 in
/-- The cell of a box of this heap. -/
theorem cellOf_made (hb cb : Nat) (n : Int) (x v : Value) (w : World) (h : HpAt w hb true n) (hc : ClAt w cb hb v) (cC : Calls Tryd.prog 19 #[x] w fun e w' => e = .returned (.tuple #[clv cb, .int .i64 0]) ∧ Below w.heap.size w w') :
    Calls Tryd.prog 13 #[.pointer (some ⟨hb, 0, none⟩), x] w fun e w' => e = .returned (.tuple #[.pointer (some ⟨cb, 0, none⟩), .int .i64 0]) ∧ Below w.heap.size w w' := by
  have hm := isMade_any hb true n w h
  have ha := ta_cell
  have hne := neq_hp
  clear h
  unfold clv at cC
  go_enter Tryd.func13, Tryd.ntmps13
  go_wp2_with (first | (go_at_call 11; refine hm.mono ?_; rintro e w1 ⟨rfl, hw1⟩; replace hw1 := hw1.symm; subst hw1) | (go_at_call 19; refine cC.mono ?_; rintro e w2 ⟨rfl, hB2⟩; have c0 := (ptr_block (blk_keep hc hB2)).1 0))
  go_ret2
  exact ⟨rfl, hB2⟩
set_option maxHeartbeats 1600000 in
theorem Get_made (hb cb : Nat) (n m : Int) (x : Value) (w : World) (h : HpAt w hb true n) (hc : ClAt w cb hb (nm m)) (hx : BxAt w x (clv cb)) (hP : HasP w 0 0 0 false) :
    Calls Tryd.prog 6 #[.pointer (some ⟨hb, 0, none⟩), x] w fun e w' => e = .returned (.tuple #[nm m, .int .i64 0, .int .i64 0]) ∧ Below w.heap.size w w' := by
  have c1 := cellOf_made hb cb n x (nm m) w h hc (Cell_any [] x x (clv cb) w (.nil x) hx (by simp) (by simp))
  have cR : ∀ W, Below w.heap.size w W → Calls Tryd.prog 14 #[x, nm m] W fun e w' => e = .returned (.tuple #[nm m, .int .i64 0, .int .i64 0]) ∧ Below w.heap.size w w' := fun W hW => (Read_bare x (clv cb) _ _ W (hx.below hW) (hP.below hW hP.2)).mono (by rintro e w' ⟨rfl, hB⟩; exact ⟨rfl, hW.trans (hB.mono hW.size)⟩)
  obtain ⟨g, rfl, -⟩ := hx
  unfold nm at *
  go_enter Tryd.func6, Tryd.ntmps6
  go_wp2_with (first | (go_at_call 13; refine c1.mono ?_; rintro e w2 ⟨rfl, hB2⟩; have d1 := (ptr_block (blk_keep hc hB2)).1 1) | (go_at_call 14; refine (cR _ hB2).mono ?_; rintro e w3 ⟨rfl, hB3⟩))
  go_ret3
  exact ⟨rfl, hB3⟩
set_option maxHeartbeats 1600000 in
theorem Set_made (hb cb : Nat) (n m k : Int) (x b y : Value) (w : World) (h : HpAt w hb true n) (hc : ClAt w cb hb (nm m)) (hx : RcAt w x b (tx (.tx .ti)) (tx (.tx .tq)) 1) (hbx : BxAt w b (clv cb)) (hy : TgAt w y (nm k) 105) (hP : HasP w 1 0 1 true) (hne : cb ≠ hb) (B : Nat) (hB : B ≤ cb) (hBw : B ≤ w.heap.size) :
    Calls Tryd.prog 7 #[.pointer (some ⟨hb, 0, none⟩), x, y] w fun e w' => e = .returned (.tuple #[.int .i64 0, .int .i64 0]) ∧ HpAt w' hb true n ∧ ClAt w' cb hb (nm k) ∧ (∀ j o, w.heap[j]? = some o → j ≠ cb → w'.heap[j]? = some o) ∧ Below B w w' := by
  have c1 := cellOf_made hb cb n x (nm m) w h hc (Cell_any [x] x b (clv cb) w (.cons hx (.nil b)) hbx (by simp) (fun z hz => by rw [show z = x from (by simpa using hz)]; exact hd_of hx (by decide) (by decide)))
  have cW : ∀ W, Below w.heap.size w W → Calls Tryd.prog 15 #[x, y] W fun e w' => e = .returned (.tuple #[nm k, .int .i64 0, .int .i64 0]) ∧ Below w.heap.size w w' := fun W hW => (Write_one x b (clv cb) y k W (hx.below hW) (hbx.below hW) (hy.below hW) (hP.below hW hP.2)).mono (by rintro e w' ⟨rfl, hB⟩; exact ⟨rfl, hW.trans (hB.mono hW.size)⟩)
  obtain ⟨g, rfl, -⟩ := hx
  obtain ⟨gy, rfl, -⟩ := hy
  unfold nm at *
  go_enter Tryd.func7, Tryd.ntmps7
  go_wp2_with (first | (go_at_call 13; refine c1.mono ?_; rintro e w2 ⟨rfl, hB2⟩) | (go_at_call 15; refine (cW _ hB2).mono ?_; rintro e w3 ⟨rfl, hB3⟩; have HB3 : Aside (Below w.heap.size w w3) := hB3; have hk := blk_keep hc hB3; have d1 := (ptr_block hk).1 1; have f1 := (ptr_block hk).2.1 1; clear hB3))
  go_ret2
  have hB3 := HB3.out
  have hC3 : (w3.setCell ⟨cb, 1, none⟩ (.iface 44 (.int .i64 k))).heap[cb]? = some (.cells #[.pointer (some ⟨hb, 0, none⟩), .iface 44 (.int .i64 k)] 43 (0, 0)) := by have := set_blk hk 1 (.iface 44 (.int .i64 k)); simpa using this
  have keep : ∀ j o, w.heap[j]? = some o → j ≠ cb → (w3.setCell ⟨cb, 1, none⟩ (.iface 44 (.int .i64 k))).heap[j]? = some o := fun j o hj hjc => by
    rw [Below.heap_setCell _ _ _ _ (by intro e; exact hjc (by simpa using e))]
    exact blk_keep hj hB3
  exact ⟨rfl, keep hb _ h (Ne.symm hne), hC3, keep, (hB3.mono hBw).setCell hB _⟩
end Go.Proofs.YtnnmmnpnjppbhaaDoor.Vl
