/- Package coerce: then, where no kids are asked. Package coerce: then, where one node is made. Package coerce: then of any two trees that meet. -/
import Derived.Test.YtkmoeflodafoeaaGreatDoorUbr
namespace Go.Proofs.YtkmoeflodafoeaaGreatDoor
open Go.RowKit Cc
set_option maxRecDepth 100000
set_option linter.unusedSimpArgs false
set_option linter.unusedVariables false
theorem nodes_at (c : C) (b o : Nat) (w : World) :
    Calls Tryz.prog 248 #[.slice (some ⟨b, o, none⟩) (Cc.size c) (Cc.size c)] w fun e w' => e = .returned (.slice (some ⟨b, o, none⟩) (Cc.size c) (Cc.size c)) ∧ w' = w := nodes_any _ w
set_option maxHeartbeats 1600000 in
theorem then_first (s t : C) (b o b' o' : Nat) (w0 w : World) (lv : Value) (l : List N) (hs : Lie w0 b o s) (ht : Lie w0 b' o' t) (hB : Below w0.heap.size w0 w) (hO : Own w0 w lv l) (hl : l.length + Cc.size s ≤ 1000000) (h7 : (nod s).op = 7 ∨ (nod t).op = 1) :
    Calls Tryz.prog 65 #[lv, tv b o s, tv b' o' t] w (ThEnd w0 w (l ++ flat s)) := by
  obtain ⟨Ts, vs, es, hms, hns⟩ := tv_meth s b o
  obtain ⟨Tt, vt, et, hmt, -⟩ := tv_meth t b' o'
  have rs := root_at s b o w0 hs
  have rt := root_at t b' o' w0 ht
  have cn := nodes_at s b o
  rw [es, et]
  clear es et ht
  have hz := size_pos s
  have hfl := flat_len s
  generalize nod s = x at *
  generalize nod t = y at *
  have HS : Aside (∀ W, Below w0.heap.size w0 W → ∀ j u, (crow (flat s))[j]? = some u → W.cell? ((⟨b, o, none⟩ : Addr).add j) = some u) := fun W hW j u h => (hs.below hW).1.cells' j u h
  obtain ⟨fl, hfl'⟩ : ∃ fl, fl = flat s := ⟨_, rfl⟩
  rw [← hfl'] at HS hfl ⊢
  clear hfl' hs
  obtain ⟨ns, hns'⟩ : ∃ ns, ns = Cc.size s := ⟨_, rfl⟩
  rw [← hns'] at hz hfl hms hns cn rs hl
  clear hns'
  generalize Cc.size t = nt at *
  have HF : Aside (fl.length = ns) := hfl
  clear hfl
  have HO : Aside (Own w0 w lv l) := hO
  clear hO
  obtain ⟨i0, hi0, hz0, hz1, hz2⟩ := info_parts infoCo
  have hB0 := hB
  have HB0 : Aside (Below w0.heap.size w0 w) := hB0
  have hKp : ∀ W, Below w.heap.size w W → ∀ x y, Below w.heap.size w ((W.alloc x).alloc y) := fun W hW x y => below_al2 hW x y
  have rs' : ∀ W, Below w.heap.size w W → Calls Tryz.prog 249 #[.slice (some ⟨b, o, none⟩) ns ns] W fun e w' => e = .returned (.agg #[.int .i8 x.op, .int .i64 x.proj, .bool x.inj, .int .u8 x.head, .int .i64 x.label, .int .u8 x.frm, .int .u8 x.tto]) ∧ Below w.heap.size w w' := fun W hW =>
    (rs W (hB.trans (hW.mono hB.size))).mono (by rintro e w' ⟨rfl, -, h⟩; exact ⟨rfl, hW.trans (h.mono hW.size)⟩)
  have rt' : ∀ W, Below w.heap.size w W → Calls Tryz.prog 249 #[.slice (some ⟨b', o', none⟩) nt nt] W fun e w' => e = .returned (.agg #[.int .i8 y.op, .int .i64 y.proj, .bool y.inj, .int .u8 y.head, .int .i64 y.label, .int .u8 y.frm, .int .u8 y.tto]) ∧ Below w.heap.size w w' := fun W hW =>
    (rt W (hB.trans (hW.mono hB.size))).mono (by rintro e w' ⟨rfl, -, h⟩; exact ⟨rfl, hW.trans (h.mono hW.size)⟩)
  clear rs rt hB hB0
  have hB := Below.refl w.heap.size w
  by_cases hx : x.op = 7
  all_goals
    go_enter Tryz.func65, Tryz.ntmps65
    go_wp2_with (first | (go_at_call 249; refine (rs' _ hB).mono ?_; rintro e w1 ⟨rfl, hB⟩; clear rs') | (go_at_call 249; refine (rt' _ hB).mono ?_; rintro e w2 ⟨rfl, hB⟩; clear rt') | (go_at_call 248; refine (cn _).mono ?_; rintro e w3 ⟨rfl, rfl⟩) | (at_builtin; go_must (refine wpList_app rfl _ _ rfl w0 _ lv l rfl (HO.out.below (below_al2 hB _ _)) (HB0.out.trans ((below_al2 hB _ _).mono HB0.out.size)) ⟨b, o, none⟩ ns ns fl rfl HF.out (HS.out _ (HB0.out.trans ((below_al2 hB _ _).mono HB0.out.size))) (by omega) (by omega) ?_); intro v' w' hO' hB' hK' hg' hf'))
    go_ret
    exact ⟨v', rfl, hO', hB', (Keep.of (below_al2 hB _ _)).trans hK'⟩
set_option maxHeartbeats 1600000 in
theorem then_second (s t : C) (b o b' o' : Nat) (w0 w : World) (lv : Value) (l : List N) (hs : Lie w0 b o s) (ht : Lie w0 b' o' t) (hB : Below w0.heap.size w0 w) (hO : Own w0 w lv l) (hl : l.length + Cc.size t ≤ 1000000) (h7 : (nod s).op = 1) (h8 : ¬ (nod t).op = 1) :
    Calls Tryz.prog 65 #[lv, tv b o s, tv b' o' t] w (ThEnd w0 w (l ++ flat t)) := by
  obtain ⟨Ts, vs, es, hms, -⟩ := tv_meth s b o
  obtain ⟨Tt, vt, et, hmt, hns⟩ := tv_meth t b' o'
  have rs := root_at s b o w0 hs
  have rt := root_at t b' o' w0 ht
  have cn := nodes_at t b' o'
  rw [es, et]
  clear es et hs
  have hz := size_pos t
  have hfl := flat_len t
  generalize nod s = x at *
  generalize nod t = y at *
  have HS : Aside (∀ W, Below w0.heap.size w0 W → ∀ j u, (crow (flat t))[j]? = some u → W.cell? ((⟨b', o', none⟩ : Addr).add j) = some u) := fun W hW j u h => (ht.below hW).1.cells' j u h
  obtain ⟨fl, hfl'⟩ : ∃ fl, fl = flat t := ⟨_, rfl⟩
  rw [← hfl'] at HS hfl ⊢
  clear hfl' ht
  obtain ⟨ns, hns'⟩ : ∃ ns, ns = Cc.size t := ⟨_, rfl⟩
  rw [← hns'] at hz hfl hmt hns cn rt hl
  clear hns'
  generalize Cc.size s = nt at *
  have HF : Aside (fl.length = ns) := hfl
  clear hfl
  have HO : Aside (Own w0 w lv l) := hO
  clear hO
  obtain ⟨i0, hi0, hz0, hz1, hz2⟩ := info_parts infoCo
  have hB0 := hB
  have HB0 : Aside (Below w0.heap.size w0 w) := hB0
  have hKp : ∀ W, Below w.heap.size w W → ∀ x y, Below w.heap.size w ((W.alloc x).alloc y) := fun W hW x y => below_al2 hW x y
  have rs' : ∀ W, Below w.heap.size w W → Calls Tryz.prog 249 #[.slice (some ⟨b, o, none⟩) nt nt] W fun e w' => e = .returned (.agg #[.int .i8 x.op, .int .i64 x.proj, .bool x.inj, .int .u8 x.head, .int .i64 x.label, .int .u8 x.frm, .int .u8 x.tto]) ∧ Below w.heap.size w w' := fun W hW =>
    (rs W (hB.trans (hW.mono hB.size))).mono (by rintro e w' ⟨rfl, -, h⟩; exact ⟨rfl, hW.trans (h.mono hW.size)⟩)
  have rt' : ∀ W, Below w.heap.size w W → Calls Tryz.prog 249 #[.slice (some ⟨b', o', none⟩) ns ns] W fun e w' => e = .returned (.agg #[.int .i8 y.op, .int .i64 y.proj, .bool y.inj, .int .u8 y.head, .int .i64 y.label, .int .u8 y.frm, .int .u8 y.tto]) ∧ Below w.heap.size w w' := fun W hW =>
    (rt W (hB.trans (hW.mono hB.size))).mono (by rintro e w' ⟨rfl, -, h⟩; exact ⟨rfl, hW.trans (h.mono hW.size)⟩)
  clear rs rt hB hB0
  have hB := Below.refl w.heap.size w
  · go_enter Tryz.func65, Tryz.ntmps65
    go_wp2_with (first | (go_at_call 249; refine (rs' _ hB).mono ?_; rintro e w1 ⟨rfl, hB⟩; clear rs') | (go_at_call 249; refine (rt' _ hB).mono ?_; rintro e w2 ⟨rfl, hB⟩; clear rt') | (go_at_call 248; refine (cn _).mono ?_; rintro e w3 ⟨rfl, rfl⟩) | (at_builtin; go_must (refine wpList_app rfl _ _ rfl w0 _ lv l rfl (HO.out.below (below_al2 hB _ _)) (HB0.out.trans ((below_al2 hB _ _).mono HB0.out.size)) ⟨b', o', none⟩ ns ns fl rfl HF.out (HS.out _ (HB0.out.trans ((below_al2 hB _ _).mono HB0.out.size))) (by omega) (by omega) ?_); intro v' w' hO' hB' hK' hg' hf'))
    go_ret
    exact ⟨v', rfl, hO', hB', (Keep.of (below_al2 hB _ _)).trans hK'⟩
end Go.Proofs.YtkmoeflodafoeaaGreatDoor
namespace Go.Proofs.YtkmoeflodafoeaaGreatDoor
open Go.RowKit Cc
set_option maxRecDepth 100000
set_option linter.unusedSimpArgs false
set_option linter.unusedVariables false
theorem cells_new (w : World) (a0 a1 : Int) (a2 : Bool) (a3 a4 a5 a6 : Int) (t : TypeId) (B : Nat) (hB : B = w.heap.size) (j : Nat) (u : Value) (h : (crow [⟨a0, a1, a2, a3, a4, a5, a6⟩])[j]? = some u) :
    (w.alloc (.cells #[.int .i8 a0, .int .i64 a1, .bool a2, .int .u8 a3, .int .i64 a4, .int .u8 a5, .int .u8 a6] t)).cell? ((⟨B, 0, none⟩ : Addr).add j) = some u := by
  subst hB
  refine At.cells' (b := w.heap.size) (o := 0) (l := [⟨a0, a1, a2, a3, a4, a5, a6⟩]) ⟨⟨?_, ?_, ?_, ?_, ?_, ?_, ?_⟩, trivial⟩ j u h <;> go_simp
/-- What is held of two roots. -/
structure Rts (w : World) (b o ns : Nat) (x : N) (T : TypeId) (v : Value) : Prop where
  m : ∀ w, (method 460 T v "culprit/coerce.root").run Tryz.prog w = .ok (249, .slice (some ⟨b, o, none⟩) ns ns) w
  r : ∀ W, Below w.heap.size w W → Calls Tryz.prog 249 #[.slice (some ⟨b, o, none⟩) ns ns] W fun e w' => e = .returned (.agg #[.int .i8 x.op, .int .i64 x.proj, .bool x.inj, .int .u8 x.head, .int .i64 x.label, .int .u8 x.frm, .int .u8 x.tto]) ∧ Below w.heap.size w w'
theorem Rts.of (c : C) (b o : Nat) (w0 w : World) (h : Lie w0 b o c) (hB : Below w0.heap.size w0 w) : ∃ T v, tv b o c = .iface T v ∧ Rts w b o (Cc.size c) (nod c) T v := by
  obtain ⟨T, v, e, hm, -⟩ := tv_meth c b o
  exact ⟨T, v, e, hm, fun W hW => (root_at c b o w0 h W (hB.trans (hW.mono hB.size))).mono (by rintro e w' ⟨rfl, -, h⟩; exact ⟨rfl, hW.trans (h.mono hW.size)⟩)⟩
theorem below_al3 {w w1 : World} (h : Below w.heap.size w w1) (x y z : Obj) : Below w.heap.size w (((w1.alloc x).alloc y).alloc z) := (below_al2 h x y).alloc (by have := h.size; simp; omega) z
set_option maxHeartbeats 1600000 in
theorem then_mis (s t : C) (b o b' o' : Nat) (w0 w : World) (lv : Value) (l : List N) (hs : Lie w0 b o s) (ht : Lie w0 b' o' t) (hB : Below w0.heap.size w0 w) (hO : Own w0 w lv l) (hl : l.length + 1 ≤ 1000000) (h7 : ¬ (nod s).op = 7) (h1 : ¬ (nod s).op = 1) (h8 : ¬ (nod t).op = 1) (hh : ¬ (nod s).head = (nod t).head) :
    Calls Tryz.prog 65 #[lv, tv b o s, tv b' o' t] w (ThEnd w0 w (l ++ [⟨7, (nod s).proj, false, (nod s).head, (nod t).proj, (nod s).head, (nod t).head⟩])) := by
  obtain ⟨Ts, vs, es, hms, rs⟩ := Rts.of s b o w0 w hs hB
  obtain ⟨Tt, vt, et, hmt, rt⟩ := Rts.of t b' o' w0 w ht hB
  rw [es, et]
  clear es et hs ht
  generalize nod s = x at *
  generalize nod t = y at *
  generalize Cc.size s = ns at *
  generalize Cc.size t = nt at *
  have HO : Aside (Own w0 w lv l) := hO
  have HB0 : Aside (Below w0.heap.size w0 w) := hB
  clear hO hB
  have hB := Below.refl w.heap.size w
  go_enter Tryz.func65, Tryz.ntmps65
  go_wp2_with (first | (go_at_call 249; refine (rs _ hB).mono ?_; rintro e w1 ⟨rfl, hB⟩; clear rs) | (go_at_call 249; refine (rt _ hB).mono ?_; rintro e w2 ⟨rfl, hB⟩; clear rt) | (at_builtin; go_must (refine wpList_app rfl _ _ rfl w0 _ lv l rfl (HO.out.below (below_al3 hB _ _ _)) (HB0.out.trans ((below_al3 hB _ _ _).mono HB0.out.size)) ⟨w2.heap.size + 1 + 1, 0, none⟩ 1 1 [⟨7, x.proj, false, x.head, y.proj, x.head, y.head⟩] rfl rfl (cells_new _ _ _ _ _ _ _ _ _ _ (by simp)) (by omega) (by omega) ?_); intro v' w' hO' hB' hK' hg' hf'))
  go_ret
  exact ⟨v', rfl, hO', hB', (Keep.of (below_al3 hB _ _ _)).trans hK'⟩
set_option maxHeartbeats 1600000 in
theorem then_fl (s t : C) (b o b' o' : Nat) (w0 w : World) (lv : Value) (l : List N) (hs : Lie w0 b o s) (ht : Lie w0 b' o' t) (hB : Below w0.heap.size w0 w) (hO : Own w0 w lv l) (hl : l.length + 1 ≤ 1000000) (h7 : ¬ (nod s).op = 7) (h1 : ¬ (nod s).op = 1) (hh : (nod s).head = (nod t).head) (h9 : (nod t).op = 7) :
    Calls Tryz.prog 65 #[lv, tv b o s, tv b' o' t] w (ThEnd w0 w (l ++ [⟨7, (nod s).proj, (nod t).inj, (nod t).head, (nod t).label, (nod t).frm, (nod t).tto⟩])) := by
  obtain ⟨Ts, vs, es, hms, rs⟩ := Rts.of s b o w0 w hs hB
  obtain ⟨Tt, vt, et, hmt, rt⟩ := Rts.of t b' o' w0 w ht hB
  rw [es, et]
  clear es et hs ht
  generalize nod s = x at *
  generalize nod t = y at *
  rw [hh] at rs
  rw [h9] at rt
  clear hh h9
  generalize Cc.size s = ns at *
  generalize Cc.size t = nt at *
  have HO : Aside (Own w0 w lv l) := hO
  have HB0 : Aside (Below w0.heap.size w0 w) := hB
  clear hO hB
  have hB := Below.refl w.heap.size w
  go_enter Tryz.func65, Tryz.ntmps65
  go_wp2_with (first | (go_at_call 249; refine (rs _ hB).mono ?_; rintro e w1 ⟨rfl, hB⟩; clear rs) | (go_at_call 249; refine (rt _ hB).mono ?_; rintro e w2 ⟨rfl, hB⟩; clear rt) | (at_builtin; go_must (refine wpList_app rfl _ _ rfl w0 _ lv l rfl (HO.out.below (below_al3 hB _ _ _)) (HB0.out.trans ((below_al3 hB _ _ _).mono HB0.out.size)) ⟨w2.heap.size + 1 + 1, 0, none⟩ 1 1 [⟨7, x.proj, y.inj, y.head, y.label, y.frm, y.tto⟩] rfl rfl (cells_new _ _ _ _ _ _ _ _ _ _ (by simp)) (by omega) (by omega) ?_); intro v' w' hO' hB' hK' hg' hf'))
  go_ret
  exact ⟨v', rfl, hO', hB', (Keep.of (below_al3 hB _ _ _)).trans hK'⟩
end Go.Proofs.YtkmoeflodafoeaaGreatDoor
namespace Go.Proofs.YtkmoeflodafoeaaGreatDoor
open Go.RowKit Cc
set_option maxRecDepth 100000
set_option linter.unusedSimpArgs false
set_option linter.unusedVariables false
namespace Cc
def rowsB (L : List (Value × Value × List N)) : List N := L.flatMap fun p => p.2.2
theorem rows_take {L : List (Value × Value × List N)} {k : Nat} {x y : Value} {r : List N} (h : L[k]? = some (x, y, r)) : rowsB (L.take (k + 1)) = rowsB (L.take k) ++ r := by
  obtain ⟨hk, e⟩ := List.getElem?_eq_some_iff.1 h
  rw [List.take_succ_eq_append_getElem hk, e]
  simp [rowsB]
theorem rows_len {L : List (Value × Value × List N)} (k : Nat) : (rowsB (L.take k)).length ≤ (rowsB L).length := by
  conv => rhs; rw [← List.take_append_drop k L]
  simp only [rowsB, List.flatMap_append, List.length_append]
  omega
end Cc
set_option maxHeartbeats 3200000 in
theorem then_kids (s t : C) (b o b' o' : Nat) (w0 w : World) (lv : Value) (l : List N) (hs : Lie w0 b o s) (ht : Lie w0 b' o' t) (hB : Below w0.heap.size w0 w) (hO : Own w0 w lv l) (hd : Deepr s t) (L : List (Value × Value × List N)) (hL : L.length ≤ 2)
    (hc : ∀ W, Calls Tryz.prog 131 #[tv b o s, tv b' o' t] W fun e w' => ∃ v, e = .returned v ∧ CpL W w' L v ∧ Below W.heap.size W w')
    (hm : ∀ (k : Nat) (x y : Value) (r : List N), L[k]? = some (x, y, r) → (∃ T u, x = .iface T u) ∧ (∃ T u, y = .iface T u) ∧ ∀ (W : World) (lv : Value) (l : List N), Below w0.heap.size w0 W → Own w0 W lv l → l.length + r.length ≤ 1000000 → Calls Tryz.prog 65 #[lv, x, y] W (ThEnd w0 W (l ++ r)))
    (hl : l.length + 1 + (rowsB L).length ≤ 1000000) :
    Calls Tryz.prog 65 #[lv, tv b o s, tv b' o' t] w (ThEnd w0 w (l ++ ⟨(nod s).op, (nod s).proj, (nod t).inj, (nod s).head, (nod s).label, (nod s).frm, (nod s).tto⟩ :: rowsB L)) := by
  obtain ⟨a7, fb, a1, b1, hh, b7⟩ := hd
  obtain ⟨Ts, vs, es, hms, rs⟩ := Rts.of s b o w0 w hs hB
  obtain ⟨Tt, vt, et, hmt, rt⟩ := Rts.of t b' o' w0 w ht hB
  rw [es] at hc ⊢
  rw [et] at hc ⊢
  clear es et hs ht fb
  generalize nod s = x at *
  generalize nod t = y at *
  rw [hh] at rs ⊢
  generalize Cc.size s = ns at *
  generalize Cc.size t = nt at *
  have HM : Aside (∀ (k : Nat) (x y : Value) (r : List N), L[k]? = some (x, y, r) → (∃ T u, x = .iface T u) ∧ (∃ T u, y = .iface T u) ∧ ∀ (W : World) (lv : Value) (l : List N), Below w0.heap.size w0 W → Own w0 W lv l → l.length + r.length ≤ 1000000 → Calls Tryz.prog 65 #[lv, x, y] W (ThEnd w0 W (l ++ r))) := hm
  clear hm hh
  have HL : Aside (L.length ≤ 2) := hL
  have HO : Aside (Own w0 w lv l) := hO
  have HB0 : Aside (Below w0.heap.size w0 w) := hB
  have HLen : Aside (l.length + 1 + (rowsB L).length ≤ 1000000) := hl
  have hl1 : l.length + 1 ≤ 1000000 := by omega
  clear hO hB hL hl
  obtain ⟨M, hM⟩ : ∃ M, M = l ++ (⟨x.op, x.proj, y.inj, y.head, x.label, x.frm, x.tto⟩ : N) :: rowsB L := ⟨_, rfl⟩
  rw [← hM]
  have HMM : Aside (M = (l ++ [(⟨x.op, x.proj, y.inj, y.head, x.label, x.frm, x.tto⟩ : N)]) ++ rowsB L) := by rw [hM]; simp [Aside]
  clear hM
  have hB := Below.refl w.heap.size w
  go_enter Tryz.func65, Tryz.ntmps65
  go_wp2_with (first | (go_at_call 249; refine (rs _ hB).mono ?_; rintro e w1 ⟨rfl, hB⟩; clear rs) | (go_at_call 249; refine (rt _ hB).mono ?_; rintro e w2 ⟨rfl, hB⟩; clear rt) | (at_builtin; go_must (refine wpList_app rfl _ _ rfl w0 _ lv l rfl (HO.out.below (below_al3 hB _ _ _)) (HB0.out.trans ((below_al3 hB _ _ _).mono HB0.out.size)) ⟨w2.heap.size + 1 + 1, 0, none⟩ 1 1 [⟨x.op, x.proj, y.inj, y.head, x.label, x.frm, x.tto⟩] rfl rfl (cells_new _ _ _ _ _ _ _ _ _ _ (by simp)) (by omega) (by omega) ?_); intro v' w' hO1 hB1 hK1 hg1 hf1; have HO1 : Aside (Own w0 w' v' (l ++ [⟨x.op, x.proj, y.inj, y.head, x.label, x.frm, x.tto⟩])) := hO1; have HB1 : Aside (Below w0.heap.size w0 w') := hB1; have HK1 : Aside (Keep w w') := (Keep.of (below_al3 hB _ _ _)).trans hK1; clear hO1 hB1 hK1 hg1 hf1 hB) | (go_at_call 131; refine (hc _).mono ?_; rintro e w5 ⟨v, rfl, ⟨a, B, rfl, hB5, hcl⟩, hB6⟩; have HC : Aside (∀ (k : Nat) (x y : Value) (r : List N), L[k]? = some (x, y, r) → w5.cell? ⟨B, k * 2, none⟩ = some x ∧ w5.cell? ⟨B, k * 2 + 1, none⟩ = some y) := hcl; have HB5 : Aside (0 < L.length → a = some ⟨B, 0, none⟩ ∧ w'.heap.size ≤ B ∧ B < w5.heap.size ∧ ∃ cs fz, w5.heap[B]? = some (Obj.cells cs 197 fz)) := hB5; have HB6 : Aside (Below w'.heap.size w' w5) := hB6; clear hc hcl hB6 hB5))
  obtain ⟨m, hmL⟩ : ∃ m, m = L.length := ⟨_, rfl⟩
  have HML : Aside (m = L.length) := hmL
  rw [← hmL]
  have hm2 : m ≤ 2 := by have := HL.out; omega
  clear hmL
  obtain ⟨l1, hl1'⟩ : ∃ l1, l1 = l ++ [(⟨x.op, x.proj, y.inj, y.head, x.label, x.frm, x.tto⟩ : N)] := ⟨_, rfl⟩
  have HMM' : Aside (M = l1 ++ rowsB L) := by rw [hl1']; exact HMM
  have HO1' : Aside (Own w0 w' v' l1) := by rw [hl1']; exact HO1
  have HLn : Aside (l1.length = l.length + 1) := by rw [hl1']; simp [Aside]
  clear hl1' HO1 HMM
  go_loopg [0, 76] m (fun gq v0 tq wr => ∃ k : Nat, k + gq = m ∧ tq = .int .i64 (k : Int) ∧ Aside (Own w0 wr v0 (l1 ++ rowsB (L.take k))) ∧ Aside (Below w0.heap.size w0 wr) ∧ Aside (Keep w5 wr) ∧ Aside (Keep w wr))
  case atStart => exact ⟨0, by omega, rfl, by simpa [rowsB, Aside] using HO1'.out.below HB6.out, HB1.out.trans (HB6.out.mono HB1.out.size), Keep.refl _, HK1.out.trans (Keep.of HB6.out)⟩
  case round =>
    clear HO1'
    obtain ⟨k, hkg, rfl, HOr, HBr, HKr, HKw⟩ := hrel
    by_cases hk : k < m
    · have hk' : (k : Int) < (m : Int) := by omega
      obtain ⟨⟨x', y', r⟩, hq⟩ : ∃ q, L[k]? = some q := ⟨_, List.getElem?_eq_getElem (by rw [← HML.out]; exact hk)⟩
      obtain ⟨rfl, hlo, hhi, cs, fz, hblk⟩ := HB5.out (by have := HML.out; omega)
      obtain ⟨⟨Tx, ux, rfl⟩, ⟨Ty, uy, rfl⟩, hcall⟩ := HM.out k _ _ _ hq
      obtain ⟨c0, c1⟩ := HC.out k _ _ _ hq
      have hbl := HKr.out.kp B cs _ fz hblk (by decide)
      have c0' : wr.cell? ⟨B, k * 2, none⟩ = some (.iface Tx ux) := (World.cell?_of_block (a := ⟨B, k * 2, none⟩) hbl).trans c0
      have c1' : wr.cell? ⟨B, k * 2 + 1, none⟩ = some (.iface Ty uy) := (World.cell?_of_block (a := ⟨B, k * 2 + 1, none⟩) hbl).trans c1
      have HQ : Aside (L[k]? = some (.iface Tx ux, .iface Ty uy, r)) := hq
      clear c0 c1 hq hlo hblk hbl
      have hk9 : k ≤ 2 := by omega
      have hcall' : ∀ ob, Calls Tryz.prog 65 #[u0, .iface Tx ux, .iface Ty uy] (wr.alloc ob) (ThEnd w0 (wr.alloc ob) (l1 ++ rowsB (L.take (k + 1)))) := by
        intro ob
        have hA := (Below.refl wr.heap.size wr).alloc (Nat.le_refl _) ob
        have h := hcall (wr.alloc ob) u0 (l1 ++ rowsB (L.take k)) (HBr.out.trans (hA.mono HBr.out.size)) (HOr.out.below hA) (by
          have h1 := rows_len (L := L) (k + 1)
          rw [rows_take HQ.out, List.length_append] at h1
          have h2 := HLen.out
          have h3 := HLn.out
          rw [List.length_append]
          omega)
        rw [rows_take HQ.out, ← List.append_assoc]
        exact h
      go_wp2_with (go_at_call 65; refine (hcall' _).mono ?_; rintro e w6 ⟨v6, rfl, hO6, hB6', hK6⟩; have HO6 : Aside (Own w0 w6 v6 (l1 ++ rowsB (L.take (k + 1)))) := hO6; have HB6' : Aside (Below w0.heap.size w0 w6) := hB6'; have HK6 : Aside (Keep wr w6) := ((Keep.refl wr).alloc _).trans hK6; clear hO6 hB6' hK6)
      go_roundg (m - (k + 1))
      case measure => omega
      case rel => exact ⟨k + 1, by omega, by go_num, HO6, HB6', HKr.out.trans HK6.out, HKw.out.trans HK6.out⟩
    · obtain rfl : k = m := by omega
      go_wp2
      go_ret
      refine ⟨u0, rfl, ?_, HBr.out, HKw.out⟩
      have h := HOr.out
      rw [HML.out, List.take_length] at h
      rw [HMM'.out]
      exact h
end Go.Proofs.YtkmoeflodafoeaaGreatDoor
