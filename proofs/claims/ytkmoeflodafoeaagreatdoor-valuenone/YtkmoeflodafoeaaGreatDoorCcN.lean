/- Package coerce: then, where one node is made. -/
import Derived.Test.YtkmoeflodafoeaaGreatDoorCcM
namespace Go.Proofs.YtkmoeflodafoeaaGreatDoor
open Go.RowKit Cc
set_option maxRecDepth 100000
set_option linter.unusedSimpArgs false
set_option linter.unusedVariables false
theorem cells_new (w : World) (a0 a1 : Int) (a2 : Bool) (a3 a4 a5 a6 : Int) (t : TypeId) (B : Nat) (hB : B = w.heap.size) (j : Nat) (u : Value) (h : (crow [⟨a0, a1, a2, a3, a4, a5, a6⟩])[j]? = some u) :
    (w.alloc (.cells #[.int .i8 a0, .int .i64 a1, .bool a2, .int .u8 a3, .int .i64 a4, .int .u8 a5, .int .u8 a6] t)).cell? ((⟨B, 0, none⟩ : Addr).add j) = some u := by
  subst hB
  refine At.cells' (b := w.heap.size) (o := 0) (l := [⟨a0, a1, a2, a3, a4, a5, a6⟩]) ⟨⟨?_, ?_, ?_, ?_, ?_, ?_, ?_⟩, trivial⟩ j u h <;> go_simp
/-- What is held of two roots. -/
structure Rts (w : World) (b o ns : Nat) (x : N) (T : TypeId) (v : Value) : Prop where
  m : ∀ w, (method 460 T v "culprit/coerce.root").run Tryz.prog w = .ok (249, .slice (some ⟨b, o, none⟩) ns ns) w
  r : ∀ W, Below w.heap.size w W → Calls Tryz.prog 249 #[.slice (some ⟨b, o, none⟩) ns ns] W fun e w' => e = .returned (.agg #[.int .i8 x.op, .int .i64 x.proj, .bool x.inj, .int .u8 x.head, .int .i64 x.label, .int .u8 x.frm, .int .u8 x.tto]) ∧ Below w.heap.size w w'
theorem Rts.of (c : C) (b o : Nat) (w0 w : World) (h : Lie w0 b o c) (hB : Below w0.heap.size w0 w) : ∃ T v, tv b o c = .iface T v ∧ Rts w b o (Cc.size c) (nod c) T v := by
  obtain ⟨T, v, e, hm, -⟩ := tv_meth c b o
  exact ⟨T, v, e, hm, fun W hW => (root_at c b o w0 h W (hB.trans (hW.mono hB.size))).mono (by rintro e w' ⟨rfl, -, h⟩; exact ⟨rfl, hW.trans (h.mono hW.size)⟩)⟩
theorem below_al3 {w w1 : World} (h : Below w.heap.size w w1) (x y z : Obj) : Below w.heap.size w (((w1.alloc x).alloc y).alloc z) := (below_al2 h x y).alloc (by have := h.size; simp; omega) z
set_option maxHeartbeats 1600000 in
theorem then_mis (s t : C) (b o b' o' : Nat) (w0 w : World) (lv : Value) (l : List N) (hs : Lie w0 b o s) (ht : Lie w0 b' o' t) (hB : Below w0.heap.size w0 w) (hO : Own w0 w lv l) (hl : l.length + 1 ≤ 1000000) (h7 : ¬ (nod s).op = 7) (h1 : ¬ (nod s).op = 1) (h8 : ¬ (nod t).op = 1) (hh : ¬ (nod s).head = (nod t).head) :
    Calls Tryz.prog 65 #[lv, tv b o s, tv b' o' t] w (ThEnd w0 w (l ++ [⟨7, (nod s).proj, false, (nod s).head, (nod t).proj, (nod s).head, (nod t).head⟩])) := by
  obtain ⟨Ts, vs, es, hms, rs⟩ := Rts.of s b o w0 w hs hB
  obtain ⟨Tt, vt, et, hmt, rt⟩ := Rts.of t b' o' w0 w ht hB
  rw [es, et]
  clear es et hs ht
  generalize nod s = x at *
  generalize nod t = y at *
  generalize Cc.size s = ns at *
  generalize Cc.size t = nt at *
  have HO : Aside (Own w0 w lv l) := hO
  have HB0 : Aside (Below w0.heap.size w0 w) := hB
  clear hO hB
  have hB := Below.refl w.heap.size w
  go_enter Tryz.func65, Tryz.ntmps65
  go_wp2_with (first | (go_at_call 249; refine (rs _ hB).mono ?_; rintro e w1 ⟨rfl, hB⟩; clear rs) | (go_at_call 249; refine (rt _ hB).mono ?_; rintro e w2 ⟨rfl, hB⟩; clear rt) | (at_builtin; go_must (refine wpList_app rfl _ _ rfl w0 _ lv l rfl (HO.out.below (below_al3 hB _ _ _)) (HB0.out.trans ((below_al3 hB _ _ _).mono HB0.out.size)) ⟨w2.heap.size + 1 + 1, 0, none⟩ 1 1 [⟨7, x.proj, false, x.head, y.proj, x.head, y.head⟩] rfl rfl (cells_new _ _ _ _ _ _ _ _ _ _ (by simp)) (by omega) (by omega) ?_); intro v' w' hO' hB' hK' hg' hf'))
  go_ret
  exact ⟨v', rfl, hO', hB', (Keep.of (below_al3 hB _ _ _)).trans hK'⟩
set_option maxHeartbeats 1600000 in
theorem then_fl (s t : C) (b o b' o' : Nat) (w0 w : World) (lv : Value) (l : List N) (hs : Lie w0 b o s) (ht : Lie w0 b' o' t) (hB : Below w0.heap.size w0 w) (hO : Own w0 w lv l) (hl : l.length + 1 ≤ 1000000) (h7 : ¬ (nod s).op = 7) (h1 : ¬ (nod s).op = 1) (hh : (nod s).head = (nod t).head) (h9 : (nod t).op = 7) :
    Calls Tryz.prog 65 #[lv, tv b o s, tv b' o' t] w (ThEnd w0 w (l ++ [⟨7, (nod s).proj, (nod t).inj, (nod t).head, (nod t).label, (nod t).frm, (nod t).tto⟩])) := by
  obtain ⟨Ts, vs, es, hms, rs⟩ := Rts.of s b o w0 w hs hB
  obtain ⟨Tt, vt, et, hmt, rt⟩ := Rts.of t b' o' w0 w ht hB
  rw [es, et]
  clear es et hs ht
  generalize nod s = x at *
  generalize nod t = y at *
  rw [hh] at rs
  rw [h9] at rt
  clear hh h9
  generalize Cc.size s = ns at *
  generalize Cc.size t = nt at *
  have HO : Aside (Own w0 w lv l) := hO
  have HB0 : Aside (Below w0.heap.size w0 w) := hB
  clear hO hB
  have hB := Below.refl w.heap.size w
  go_enter Tryz.func65, Tryz.ntmps65
  go_wp2_with (first | (go_at_call 249; refine (rs _ hB).mono ?_; rintro e w1 ⟨rfl, hB⟩; clear rs) | (go_at_call 249; refine (rt _ hB).mono ?_; rintro e w2 ⟨rfl, hB⟩; clear rt) | (at_builtin; go_must (refine wpList_app rfl _ _ rfl w0 _ lv l rfl (HO.out.below (below_al3 hB _ _ _)) (HB0.out.trans ((below_al3 hB _ _ _).mono HB0.out.size)) ⟨w2.heap.size + 1 + 1, 0, none⟩ 1 1 [⟨7, x.proj, y.inj, y.head, y.label, y.frm, y.tto⟩] rfl rfl (cells_new _ _ _ _ _ _ _ _ _ _ (by simp)) (by omega) (by omega) ?_); intro v' w' hO' hB' hK' hg' hf'))
  go_ret
  exact ⟨v', rfl, hO', hB', (Keep.of (below_al3 hB _ _ _)).trans hK'⟩
end Go.Proofs.YtkmoeflodafoeaaGreatDoor
