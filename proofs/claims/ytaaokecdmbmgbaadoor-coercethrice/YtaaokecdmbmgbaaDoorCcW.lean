/- Package coerce: lay of the casts that works asks for. -/
import Derived.Test.YtaaokecdmbmgbaaDoorCcV
namespace Go.Proofs.YtaaokecdmbmgbaaDoor
open Go.RowKit Cc
set_option maxRecDepth 100000
set_option linter.unusedSimpArgs false
set_option linter.unusedVariables false
namespace Cc
/-- A node's box, of our own: its cells may be written. -/
structure Box (w : World) (g : Nat) (x : N) : Prop where
  at1 : At1 w g 0 x
  fz : ∀ o, w.frozen? ⟨g, o, none⟩ = false
  lt : g < w.heap.size
theorem Box.of_heap {w : World} {g : Nat} {x : N} {t : TypeId} (h : w.heap[g]? = some (.cells #[.int .i8 x.op, .int .i64 x.proj, .bool x.inj, .int .u8 x.head, .int .i64 x.label, .int .u8 x.frm, .int .u8 x.tto] t (0, 0))) : Box w g x :=
  ⟨⟨Lib.cell_of_heap h 0, Lib.cell_of_heap h 1, Lib.cell_of_heap h 2, Lib.cell_of_heap h 3, Lib.cell_of_heap h 4, Lib.cell_of_heap h 5, Lib.cell_of_heap h 6⟩, Lib.frozen_of_heap h, (Array.getElem?_eq_some_iff.1 h).1⟩
theorem Box.below {w w' : World} {g : Nat} {x : N} (h : Box w g x) (hB : Below w.heap.size w w') : Box w' g x :=
  ⟨h.at1.below h.lt hB, fun o => (hB.frozen (p := ⟨g, o, none⟩) h.lt).trans (h.fz o), Nat.lt_of_lt_of_le h.lt hB.size⟩
theorem Box.grown {w w' : World} {g : Nat} {x : N} {row : Option Nat} (h : Box w g x) (hg : w.grownBy w' row) (hn : some g ≠ row) : Box w' g x := by
  have hb := hg.block g h.lt hn
  have e : ∀ o, w'.cell? ⟨g, o, none⟩ = w.cell? ⟨g, o, none⟩ := fun o => World.cell?_of_block hb
  refine ⟨?_, fun o => (World.frozen?_of_block (a := ⟨g, o, none⟩) hb).trans (h.fz o), Nat.lt_of_lt_of_le h.lt hg.size⟩
  have := h.at1
  unfold At1 at this ⊢
  simp only [e]
  exact this
theorem Keep.set {w W : World} (h : Keep w W) (g o : Nat) (u : Value) (hg : w.heap.size ≤ g) : Keep w (W.setCell ⟨g, o, none⟩ u) :=
  ⟨by simpa using h.sz, fun k c t fz e n => by
    rw [Below.heap_setCell _ _ _ _ (show k ≠ g from fun he => by have := (Array.getElem?_eq_some_iff.1 e).1; omega)]
    exact h.kp k c t fz e n⟩
/-- What holds while a node's box is being filled. -/
structure Fil (w0 w W : World) (lv : Value) (l : List N) : Prop where
  own : Own w0 W lv l
  bl : Below w0.heap.size w0 W
  kp : Keep w W
  lt : w.heap.size < W.heap.size
  ne : ∀ g, lv.ownBlock = some g → g ≠ w.heap.size
  lo : w0.heap.size ≤ w.heap.size
theorem Fil.set {w0 w W : World} {lv : Value} {l : List N} (h : Fil w0 w W lv l) (o : Nat) (u : Value) : Fil w0 w (W.setCell ⟨w.heap.size, o, none⟩ u) lv l :=
  ⟨h.own.set _ _ _ h.ne, h.bl.setCell (p := ⟨w.heap.size, o, none⟩) h.lo _, h.kp.set _ _ _ (Nat.le_refl _), by simpa using h.lt, h.ne, h.lo⟩
theorem Fil.alloc {w0 w W : World} {lv : Value} {l : List N} (h : Fil w0 w W lv l) (o : Obj) : Fil w0 w (W.alloc o) lv l :=
  ⟨h.own.below ((Below.refl _ _).alloc (Nat.le_refl _) _), h.bl.alloc h.bl.size _, h.kp.alloc _, by have := h.lt; simp; omega, h.ne, h.lo⟩
theorem Fil.below {w0 w W W' : World} {lv : Value} {l : List N} (h : Fil w0 w W lv l) (hB : Below W.heap.size W W') : Fil w0 w W' lv l :=
  ⟨h.own.below hB, h.bl.trans (hB.mono h.bl.size), h.kp.trans (Keep.of hB), Nat.lt_of_lt_of_le h.lt hB.size, h.ne, h.lo⟩
theorem Fil.start {w0 w : World} {lv : Value} {l : List N} (hO : Own w0 w lv l) (hB : Below w0.heap.size w0 w) (o : Obj) : Fil w0 w (w.alloc o) lv l :=
  ⟨hO.below ((Below.refl _ _).alloc (Nat.le_refl _) _), hB.alloc hB.size _, (Keep.refl w).alloc _, by simp, fun g e => by have := (hO.blk e).2; omega, hB.size⟩
/-- The box of what was appended to is another one. -/
theorem Fil.cell {w0 w W w' : World} {lv : Value} {l : List N} (h : Fil w0 w W lv l) (hg : W.grownBy w' lv.ownBlock) (o : Nat) : w'.cell? ⟨w.heap.size, o, none⟩ = W.cell? ⟨w.heap.size, o, none⟩ :=
  World.cell?_of_block (a := ⟨w.heap.size, o, none⟩) (hg.block w.heap.size h.lt (fun e => h.ne _ e.symm rfl))
end Cc
set_option maxHeartbeats 3200000 in
theorem lay_b (c : UInt8) (hc : c = 105 ∨ c = 98) (r : Bool) (p : Int) (w0 w : World) (lv : Value) (l : List N) (hB : Below w0.heap.size w0 w) (hO : Own w0 w lv l) (hl : l.length ≤ 1000) :
    Calls Tryd.prog 30 #[lv, .string (if r then sB c else sB 63), .string (if r then sB 63 else sB c), .int .i64 p] w (ThEnd w0 w (l ++ [⟨2, if r then 0 else p, r, (c.toNat : Int), 0, 0, 0⟩])) := by
  have cg : ∀ W, Calls Tryd.prog 51 #[.string (sB c)] W fun e w' => e = .returned (.string (sB c)) ∧ Below W.heap.size W w' := ground_b c hc
  have cp : ∀ W, Calls Tryd.prog 52 #[.string (sB c)] W fun e w' => ∃ a k, e = .returned (.slice a 0 k) ∧ Below W.heap.size W w' := parts_b c hc
  have ch := head_b c hc
  have co : ∀ W, Calls Tryd.prog 54 #[.int .u8 (c.toNat : Int)] W fun e w' => e = .returned (.int .i8 2) ∧ w' = W := fun W => by
    have h := opOf_any (c.toNat : Int) W
    rwa [show opB (c.toNat : Int) = 2 by rcases hc with rfl | rfl <;> rfl] at h
  have HO : Aside (Own w0 w lv l) := hO
  have HB : Aside (Below w0.heap.size w0 w) := hB
  have HL : Aside (l.length ≤ 1000) := hl
  clear hO hB hl
  rcases hc with rfl | rfl <;> cases r <;> simp only [if_true, if_false, Bool.false_eq_true]
  all_goals
    go_enter Tryd.func30, Tryd.ntmps30
    go_wp2_with (first | (go_at_call 51; refine (cg _).mono ?_; rintro e w1 ⟨rfl, hB1⟩; have HX : Box w1 w.heap.size ⟨0, 0, false, 0, 0, 0, 0⟩ := (Box.of_heap (heap_alloc_new _ _)).below hB1; have HF : Aside (Fil w0 w w1 lv l) := (Fil.start HO.out HB.out _).below hB1; obtain ⟨⟨b0, b1, b2, b3, b4, b5, b6⟩, hfz, hlt⟩ := HX; clear hB1) | (go_at_call 53; refine (ch _).mono ?_; rintro e w2 ⟨rfl, rfl⟩) | (go_at_call 54; refine (co _).mono ?_; rintro e w3 ⟨rfl, rfl⟩) | (at_builtin; go_must (refine wpList_app rfl _ _ rfl w0 _ lv l rfl ((((HF.out.set _ _).set _ _).set _ _).alloc _).own ((((HF.out.set _ _).set _ _).set _ _).alloc _).bl ⟨w1.heap.size, 0, none⟩ 1 1 _ rfl rfl (cells_new _ _ _ _ _ _ _ _ _ _ (by simp)) (by decide) (by have := HL.out; omega) ?_); intro v' w' hO' hB' hK' hg' hf'; have HO' : Aside (Own w0 w' v' _) := hO'; have HB' : Aside (Below w0.heap.size w0 w') := hB'; have HK' : Aside (Keep w w') := ((((HF.out.set _ _).set _ _).set _ _).alloc _).kp.trans hK'; have r0 : w'.cell? ⟨w.heap.size, 0, none⟩ = some (.int .i8 2) := (((((HF.out.set _ _).set _ _).set _ _).alloc _).cell hg' 0).trans (by go_simp); have hlt' : w.heap.size < w'.heap.size := Nat.lt_of_lt_of_le ((((HF.out.set _ _).set _ _).set _ _).alloc _).lt hg'.size; clear hO' hB' hK' hg' hf' b0 b1 b2 b3 b4 b5 b6 hfz hlt) | (go_at_call 52; refine (cp _).mono ?_; rintro e w4 ⟨a4, k4, rfl, hB4⟩; have r0 := (hB4.cell (p := ⟨w.heap.size, 0, none⟩) hlt').trans r0; have hlt' := Nat.lt_of_lt_of_le hlt' hB4.size; have HO' : Aside (Own w0 w4 v' _) := HO'.out.below hB4; have HB' : Aside (Below w0.heap.size w0 w4) := HB'.out.trans (hB4.mono HB'.out.size); have HK' : Aside (Keep w w4) := HK'.out.trans (Keep.of hB4); clear hB4))
    go_ret
    exact ⟨v', rfl, HO'.out, HB'.out, HK'.out⟩
end Go.Proofs.YtaaokecdmbmgbaaDoor
