/- Package value: the coercion from i to i; Coerce of nil. -/
import Derived.Test.YtkmoeflodafoeaaGreatDoorUbt
import Derived.Test.YtkmoeflodafoeaaGreatDoorUbb
namespace Go.Proofs.YtkmoeflodafoeaaGreatDoor.Vl
open Go.RowKit Cc
set_option maxRecDepth 100000
set_option linter.unusedSimpArgs false
set_option linter.unusedVariables false
/-- A node's box, of our own: its cells may be written. -/
structure Box (w : World) (g : Nat) (x : N) : Prop where
  at1 : At1 w g 0 x
  fz : ∀ o, w.frozen? ⟨g, o, none⟩ = false
  lt : g < w.heap.size
theorem Box.of_heap {w : World} {g : Nat} {x : N} {t : TypeId} (h : w.heap[g]? = some (.cells #[.int .i8 x.op, .int .i64 x.proj, .bool x.inj, .int .u8 x.head, .int .i64 x.label, .int .u8 x.frm, .int .u8 x.tto] t (0, 0))) : Box w g x :=
  ⟨⟨Lib.cell_of_heap h 0, Lib.cell_of_heap h 1, Lib.cell_of_heap h 2, Lib.cell_of_heap h 3, Lib.cell_of_heap h 4, Lib.cell_of_heap h 5, Lib.cell_of_heap h 6⟩, Lib.frozen_of_heap h, (Array.getElem?_eq_some_iff.1 h).1⟩
theorem Box.below {w w' : World} {g : Nat} {x : N} (h : Box w g x) (hB : Below w.heap.size w w') : Box w' g x :=
  ⟨h.at1.below h.lt hB, fun o => (hB.frozen (p := ⟨g, o, none⟩) h.lt).trans (h.fz o), Nat.lt_of_lt_of_le h.lt hB.size⟩
theorem Box.grown {w w' : World} {g : Nat} {x : N} {row : Option Nat} (h : Box w g x) (hg : w.grownBy w' row) (hn : some g ≠ row) : Box w' g x := by
  have hb := hg.block g h.lt hn
  have e : ∀ o, w'.cell? ⟨g, o, none⟩ = w.cell? ⟨g, o, none⟩ := fun o => World.cell?_of_block hb
  refine ⟨?_, fun o => (World.frozen?_of_block (a := ⟨g, o, none⟩) hb).trans (h.fz o), Nat.lt_of_lt_of_le h.lt hg.size⟩
  have := h.at1
  unfold At1 at this ⊢
  simp only [e]
  exact this
theorem keep_set {w W : World} (h : Keep w W) (g o : Nat) (u : Value) (hg : w.heap.size ≤ g) : Keep w (W.setCell ⟨g, o, none⟩ u) :=
  ⟨by simpa using h.sz, fun k c t fz e n => by
    rw [Below.heap_setCell _ _ _ _ (show k ≠ g from fun he => by have := (Array.getElem?_eq_some_iff.1 e).1; omega)]
    exact h.kp k c t fz e n⟩
/-- What holds while a node's box is being filled. -/
structure Fil (w0 w W : World) (lv : Value) (l : List N) : Prop where
  own : Own w0 W lv l
  bl : Below w0.heap.size w0 W
  kp : Keep w W
  lt : w.heap.size < W.heap.size
  ne : ∀ g, lv.ownBlock = some g → g ≠ w.heap.size
  lo : w0.heap.size ≤ w.heap.size
theorem Fil.set {w0 w W : World} {lv : Value} {l : List N} (h : Fil w0 w W lv l) (o : Nat) (u : Value) : Fil w0 w (W.setCell ⟨w.heap.size, o, none⟩ u) lv l :=
  ⟨h.own.set _ _ _ h.ne, h.bl.setCell (p := ⟨w.heap.size, o, none⟩) h.lo _, keep_set h.kp _ _ _ (Nat.le_refl _), by simpa using h.lt, h.ne, h.lo⟩
theorem Fil.alloc {w0 w W : World} {lv : Value} {l : List N} (h : Fil w0 w W lv l) (o : Obj) : Fil w0 w (W.alloc o) lv l :=
  ⟨h.own.below ((Below.refl _ _).alloc (Nat.le_refl _) _), h.bl.alloc h.bl.size _, h.kp.alloc _, by have := h.lt; simp; omega, h.ne, h.lo⟩
theorem Fil.below {w0 w W W' : World} {lv : Value} {l : List N} (h : Fil w0 w W lv l) (hB : Below W.heap.size W W') : Fil w0 w W' lv l :=
  ⟨h.own.below hB, h.bl.trans (hB.mono h.bl.size), h.kp.trans (Keep.of hB), Nat.lt_of_lt_of_le h.lt hB.size, h.ne, h.lo⟩
theorem Fil.start {w0 w : World} {lv : Value} {l : List N} (hO : Own w0 w lv l) (hB : Below w0.heap.size w0 w) (o : Obj) : Fil w0 w (w.alloc o) lv l :=
  ⟨hO.below ((Below.refl _ _).alloc (Nat.le_refl _) _), hB.alloc hB.size _, (Keep.refl w).alloc _, by simp, fun g e => by have := (hO.blk e).2; omega, hB.size⟩
/-- The box of what was appended to is another one. -/
theorem Fil.cell {w0 w W w' : World} {lv : Value} {l : List N} (h : Fil w0 w W lv l) (hg : W.grownBy w' lv.ownBlock) (o : Nat) : w'.cell? ⟨w.heap.size, o, none⟩ = W.cell? ⟨w.heap.size, o, none⟩ :=
  World.cell?_of_block (a := ⟨w.heap.size, o, none⟩) (hg.block w.heap.size h.lt (fun e => h.ne _ e.symm rfl))

def nodeI : N := ⟨2, 0, false, 105, 0, 0, 0⟩
theorem parts_i (w : World) : Calls Tryz.prog 125 #[.string ⟨#[105]⟩] w fun e w' => ∃ a k, e = .returned (.slice a 0 k) ∧ Below w.heap.size w w' := by
  refine (T3.parts_yes .ti (by decide) w).mono ?_
  rintro e w' ⟨v, rfl, hO, hB⟩
  obtain ⟨a, k, rfl⟩ := T3.own_len hO
  exact ⟨a, k, rfl, hB⟩
theorem head_i (w : World) : Calls Tryz.prog 126 #[.string ⟨#[105]⟩] w fun e w' => e = .returned (.int .u8 105) ∧ w' = w := T3.head_yes .ti (by decide) w
set_option maxHeartbeats 1600000 in
theorem size_i (w : World) : Calls Tryz.prog 61 #[.string ⟨#[105]⟩, .string ⟨#[105]⟩] w fun e w' => e = .returned (.int .u64 1) ∧ Below w.heap.size w w' := by
  have cp : ∀ W, Below w.heap.size w W → Calls Tryz.prog 125 #[.string ⟨#[105]⟩] W fun e w' => (∃ a k, e = .returned (.slice a 0 k)) ∧ Below w.heap.size w w' := fun W hW => (parts_i W).mono (by rintro e w' ⟨a, k, rfl, hB⟩; exact ⟨⟨a, k, rfl⟩, hW.trans (hB.mono hW.size)⟩)
  have ch := head_i
  have hB := Below.refl w.heap.size w
  go_enter Tryz.func61, Tryz.ntmps61
  go_wp2_with (go_at_call 125; refine (cp _ hB).mono ?_; rintro e w2 ⟨⟨a2, k2, rfl⟩, hB⟩)
  go_loopg [5, 31] 0 (fun gq v5 tq wr => v5 = .int .u64 1 ∧ tq = .int .i64 0 ∧ Below w.heap.size w wr)
  case atStart => exact ⟨rfl, rfl, hB⟩
  case round =>
    obtain ⟨rfl, rfl, hB⟩ := hrel
    go_wp2_with (go_at_call 126; refine (ch _).mono ?_; rintro e w3 ⟨rfl, rfl⟩)
    go_ret
    exact ⟨rfl, hB⟩
set_option maxHeartbeats 3200000 in
theorem lay_i (p : Int) (w0 w : World) (lv : Value) (hB : Below w0.heap.size w0 w) (hO : Own w0 w lv []) :
    Calls Tryz.prog 62 #[lv, .string ⟨#[105]⟩, .string ⟨#[105]⟩, .int .i64 p] w (ThEnd w0 w [nodeI]) := by
  have cp := parts_i
  have ch := head_i
  have co : ∀ W, Calls Tryz.prog 127 #[.int .u8 105] W fun e w' => e = .returned (.int .i8 2) ∧ w' = W := fun W => opOf_any 105 W
  have HO : Aside (Own w0 w lv []) := hO
  have HB : Aside (Below w0.heap.size w0 w) := hB
  clear hO hB
  go_enter Tryz.func62, Tryz.ntmps62
  go_wp2_with (first | (go_at_call 126; refine (ch _).mono ?_; rintro e w1 ⟨rfl, hw1⟩; have HX : Box w1 w.heap.size ⟨0, 0, false, 0, 0, 0, 0⟩ := (by rw [hw1]; exact Box.of_heap (heap_alloc_new _ _)); have HF : Aside (Fil w0 w w1 lv []) := (by rw [hw1]; exact Fil.start HO.out HB.out _); obtain ⟨⟨b0, b1, b2, b3, b4, b5, b6⟩, hfz, hlt⟩ := HX; clear hw1) | (go_at_call 127; refine (co _).mono ?_; rintro e w3 ⟨rfl, rfl⟩) | (at_builtin; go_must (refine wpList_app rfl _ _ rfl w0 _ lv [] rfl (((HF.out.set _ _).set _ _).alloc _).own (((HF.out.set _ _).set _ _).alloc _).bl ⟨w1.heap.size, 0, none⟩ 1 1 _ rfl rfl (cells_new _ _ _ _ _ _ _ _ _ _ (by simp)) (by decide) (by decide) ?_); intro v' w' hO' hB' hK' hg' hf'; have HO' : Aside (Own w0 w' v' _) := hO'; have HB' : Aside (Below w0.heap.size w0 w') := hB'; have HK' : Aside (Keep w w') := (((HF.out.set _ _).set _ _).alloc _).kp.trans hK'; have r0 : w'.cell? ⟨w.heap.size, 0, none⟩ = some (.int .i8 2) := ((((HF.out.set _ _).set _ _).alloc _).cell hg' 0).trans (by go_simp); have hlt' : w.heap.size < w'.heap.size := Nat.lt_of_lt_of_le (((HF.out.set _ _).set _ _).alloc _).lt hg'.size; clear hO' hB' hK' hg' hf' b0 b1 b2 b3 b4 b5 b6 hfz hlt) | (go_at_call 125; refine (cp _).mono ?_; rintro e w4 ⟨a4, k4, rfl, hB4⟩; have r0 := (hB4.cell (p := ⟨w.heap.size, 0, none⟩) hlt').trans r0; have hlt' := Nat.lt_of_lt_of_le hlt' hB4.size; have HO' : Aside (Own w0 w4 v' _) := HO'.out.below hB4; have HB' : Aside (Below w0.heap.size w0 w4) := HB'.out.trans (hB4.mono HB'.out.size); have HK' : Aside (Keep w w4) := HK'.out.trans (Keep.of hB4); clear hB4))
  go_ret
  exact ⟨v', rfl, HO'.out, HB'.out, HK'.out⟩
set_option maxHeartbeats 1600000 in
theorem Of_i (w : World) :
    Calls Tryz.prog 16 #[.string ⟨#[105]⟩, .string ⟨#[105]⟩, .int .i64 1] w fun e w' => ∃ v, e = .returned (.tuple #[v, .int .i64 0]) ∧ Own w w' v [nodeI] ∧ Below w.heap.size w w' := by
  have ci := isTypeC_any ⟨#[105]⟩
  rw [show good ⟨#[105]⟩ = true from good_tx .ti (by decide)] at ci
  have cc : ∀ W, Calls Tryz.prog 59 #[.string ⟨#[105]⟩, .string ⟨#[105]⟩] W fun e w' => e = .returned (.bool true) ∧ Below W.heap.size W w' := fun W => T3.consistent_yes .ti .ti (by decide) (by decide) W
  have cl := isLabelV_any 1
  rw [show lab 1 = true from by decide] at cl
  have cs := size_i
  have m1 := mk1
  have cy : ∀ W, Below w.heap.size w W → Calls Tryz.prog 62 #[.slice (some ⟨W.heap.size, 0, none⟩) 0 1, .string ⟨#[105]⟩, .string ⟨#[105]⟩, .int .i64 1] (W.alloc (.cells #[.int .i8 0, .int .i64 0, .bool false, .int .u8 0, .int .i64 0, .int .u8 0, .int .u8 0] 29)) fun e w' => ∃ v, e = .returned v ∧ Own w w' v [nodeI] ∧ Below w.heap.size w w' := fun W hW =>
    (lay_i 1 w _ _ (hW.alloc hW.size _) ⟨by simp [crow], .inr ⟨W.heap.size, 1, _, rfl, hW.size, heap_alloc_new _ _, by decide, by decide, rfl, rfl⟩⟩).mono (by rintro e w' ⟨v, rfl, hO', hB', -⟩; exact ⟨v, rfl, hO', hB'⟩)
  go_enter Tryz.func16, Tryz.ntmps16
  go_wp2_with (first | (go_at_call 58; refine (ci _).mono ?_; rintro e w1 ⟨rfl, hw1⟩; replace hw1 := hw1.symm; subst hw1) | (go_at_call 59; refine (cc _).mono ?_; rintro e w3 ⟨rfl, hB3⟩) | (go_at_call 60; refine (cl _).mono ?_; rintro e w4 ⟨rfl, hw4⟩; replace hw4 := hw4.symm; subst hw4) | (go_at_call 61; refine (cs _).mono ?_; rintro e w5 ⟨rfl, hB5⟩; have hB6 := hB3.trans (hB5.mono hB3.size)) | (go_at_call 62; refine (cy _ hB6).mono ?_; rintro e w7 ⟨v7, rfl, hO7, hB7⟩))
  go_ret2
  exact ⟨_, rfl, hO7, hB7⟩
set_option maxHeartbeats 800000 in
theorem Coerce_nil (v : Value) (w : World) (h : IsCos w v [nodeI]) : Calls Tryz.prog 22 #[.nilIface, v] w (Stuck w) := by
  have cm := May_any [nodeI] v w h (by decide)
  rw [show (Cc.whole [nodeI]).isSome = true from by decide] at cm
  obtain ⟨a, c, rfl⟩ := h.form
  clear h
  unfold Stuck at *
  go_enter Tryz.func22, Tryz.ntmps22
  go_wp2_with (go_at_call 68; refine cm.mono ?_; rintro e w1 ⟨rfl, hB1⟩)
  go_ret3
  exact ⟨rfl, hB1⟩
end Go.Proofs.YtkmoeflodafoeaaGreatDoor.Vl
