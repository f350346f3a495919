/- Package coerce: then, where no kids are asked. -/
import Derived.Test.YtkmoeflodafoeaaGreatDoorCcL
namespace Go.Proofs.YtkmoeflodafoeaaGreatDoor
open Go.RowKit Cc
set_option maxRecDepth 100000
set_option linter.unusedSimpArgs false
set_option linter.unusedVariables false
theorem nodes_at (c : C) (b o : Nat) (w : World) :
    Calls Tryz.prog 248 #[.slice (some ⟨b, o, none⟩) (Cc.size c) (Cc.size c)] w fun e w' => e = .returned (.slice (some ⟨b, o, none⟩) (Cc.size c) (Cc.size c)) ∧ w' = w := nodes_any _ w
set_option maxHeartbeats 1600000 in
theorem then_first (s t : C) (b o b' o' : Nat) (w0 w : World) (lv : Value) (l : List N) (hs : Lie w0 b o s) (ht : Lie w0 b' o' t) (hB : Below w0.heap.size w0 w) (hO : Own w0 w lv l) (hl : l.length + Cc.size s ≤ 1000000) (h7 : (nod s).op = 7 ∨ (nod t).op = 1) :
    Calls Tryz.prog 65 #[lv, tv b o s, tv b' o' t] w (ThEnd w0 w (l ++ flat s)) := by
  obtain ⟨Ts, vs, es, hms, hns⟩ := tv_meth s b o
  obtain ⟨Tt, vt, et, hmt, -⟩ := tv_meth t b' o'
  have rs := root_at s b o w0 hs
  have rt := root_at t b' o' w0 ht
  have cn := nodes_at s b o
  rw [es, et]
  clear es et ht
  have hz := size_pos s
  have hfl := flat_len s
  generalize nod s = x at *
  generalize nod t = y at *
  have HS : Aside (∀ W, Below w0.heap.size w0 W → ∀ j u, (crow (flat s))[j]? = some u → W.cell? ((⟨b, o, none⟩ : Addr).add j) = some u) := fun W hW j u h => (hs.below hW).1.cells' j u h
  obtain ⟨fl, hfl'⟩ : ∃ fl, fl = flat s := ⟨_, rfl⟩
  rw [← hfl'] at HS hfl ⊢
  clear hfl' hs
  obtain ⟨ns, hns'⟩ : ∃ ns, ns = Cc.size s := ⟨_, rfl⟩
  rw [← hns'] at hz hfl hms hns cn rs hl
  clear hns'
  generalize Cc.size t = nt at *
  have HF : Aside (fl.length = ns) := hfl
  clear hfl
  have HO : Aside (Own w0 w lv l) := hO
  clear hO
  obtain ⟨i0, hi0, hz0, hz1, hz2⟩ := info_parts infoCo
  have hB0 := hB
  have HB0 : Aside (Below w0.heap.size w0 w) := hB0
  have hKp : ∀ W, Below w.heap.size w W → ∀ x y, Below w.heap.size w ((W.alloc x).alloc y) := fun W hW x y => below_al2 hW x y
  have rs' : ∀ W, Below w.heap.size w W → Calls Tryz.prog 249 #[.slice (some ⟨b, o, none⟩) ns ns] W fun e w' => e = .returned (.agg #[.int .i8 x.op, .int .i64 x.proj, .bool x.inj, .int .u8 x.head, .int .i64 x.label, .int .u8 x.frm, .int .u8 x.tto]) ∧ Below w.heap.size w w' := fun W hW =>
    (rs W (hB.trans (hW.mono hB.size))).mono (by rintro e w' ⟨rfl, -, h⟩; exact ⟨rfl, hW.trans (h.mono hW.size)⟩)
  have rt' : ∀ W, Below w.heap.size w W → Calls Tryz.prog 249 #[.slice (some ⟨b', o', none⟩) nt nt] W fun e w' => e = .returned (.agg #[.int .i8 y.op, .int .i64 y.proj, .bool y.inj, .int .u8 y.head, .int .i64 y.label, .int .u8 y.frm, .int .u8 y.tto]) ∧ Below w.heap.size w w' := fun W hW =>
    (rt W (hB.trans (hW.mono hB.size))).mono (by rintro e w' ⟨rfl, -, h⟩; exact ⟨rfl, hW.trans (h.mono hW.size)⟩)
  clear rs rt hB hB0
  have hB := Below.refl w.heap.size w
  by_cases hx : x.op = 7
  all_goals
    go_enter Tryz.func65, Tryz.ntmps65
    go_wp2_with (first | (go_at_call 249; refine (rs' _ hB).mono ?_; rintro e w1 ⟨rfl, hB⟩; clear rs') | (go_at_call 249; refine (rt' _ hB).mono ?_; rintro e w2 ⟨rfl, hB⟩; clear rt') | (go_at_call 248; refine (cn _).mono ?_; rintro e w3 ⟨rfl, rfl⟩) | (at_builtin; go_must (refine wpList_app rfl _ _ rfl w0 _ lv l rfl (HO.out.below (below_al2 hB _ _)) (HB0.out.trans ((below_al2 hB _ _).mono HB0.out.size)) ⟨b, o, none⟩ ns ns fl rfl HF.out (HS.out _ (HB0.out.trans ((below_al2 hB _ _).mono HB0.out.size))) (by omega) (by omega) ?_); intro v' w' hO' hB' hK' hg' hf'))
    go_ret
    exact ⟨v', rfl, hO', hB', (Keep.of (below_al2 hB _ _)).trans hK'⟩
set_option maxHeartbeats 1600000 in
theorem then_second (s t : C) (b o b' o' : Nat) (w0 w : World) (lv : Value) (l : List N) (hs : Lie w0 b o s) (ht : Lie w0 b' o' t) (hB : Below w0.heap.size w0 w) (hO : Own w0 w lv l) (hl : l.length + Cc.size t ≤ 1000000) (h7 : (nod s).op = 1) (h8 : ¬ (nod t).op = 1) :
    Calls Tryz.prog 65 #[lv, tv b o s, tv b' o' t] w (ThEnd w0 w (l ++ flat t)) := by
  obtain ⟨Ts, vs, es, hms, -⟩ := tv_meth s b o
  obtain ⟨Tt, vt, et, hmt, hns⟩ := tv_meth t b' o'
  have rs := root_at s b o w0 hs
  have rt := root_at t b' o' w0 ht
  have cn := nodes_at t b' o'
  rw [es, et]
  clear es et hs
  have hz := size_pos t
  have hfl := flat_len t
  generalize nod s = x at *
  generalize nod t = y at *
  have HS : Aside (∀ W, Below w0.heap.size w0 W → ∀ j u, (crow (flat t))[j]? = some u → W.cell? ((⟨b', o', none⟩ : Addr).add j) = some u) := fun W hW j u h => (ht.below hW).1.cells' j u h
  obtain ⟨fl, hfl'⟩ : ∃ fl, fl = flat t := ⟨_, rfl⟩
  rw [← hfl'] at HS hfl ⊢
  clear hfl' ht
  obtain ⟨ns, hns'⟩ : ∃ ns, ns = Cc.size t := ⟨_, rfl⟩
  rw [← hns'] at hz hfl hmt hns cn rt hl
  clear hns'
  generalize Cc.size s = nt at *
  have HF : Aside (fl.length = ns) := hfl
  clear hfl
  have HO : Aside (Own w0 w lv l) := hO
  clear hO
  obtain ⟨i0, hi0, hz0, hz1, hz2⟩ := info_parts infoCo
  have hB0 := hB
  have HB0 : Aside (Below w0.heap.size w0 w) := hB0
  have hKp : ∀ W, Below w.heap.size w W → ∀ x y, Below w.heap.size w ((W.alloc x).alloc y) := fun W hW x y => below_al2 hW x y
  have rs' : ∀ W, Below w.heap.size w W → Calls Tryz.prog 249 #[.slice (some ⟨b, o, none⟩) nt nt] W fun e w' => e = .returned (.agg #[.int .i8 x.op, .int .i64 x.proj, .bool x.inj, .int .u8 x.head, .int .i64 x.label, .int .u8 x.frm, .int .u8 x.tto]) ∧ Below w.heap.size w w' := fun W hW =>
    (rs W (hB.trans (hW.mono hB.size))).mono (by rintro e w' ⟨rfl, -, h⟩; exact ⟨rfl, hW.trans (h.mono hW.size)⟩)
  have rt' : ∀ W, Below w.heap.size w W → Calls Tryz.prog 249 #[.slice (some ⟨b', o', none⟩) ns ns] W fun e w' => e = .returned (.agg #[.int .i8 y.op, .int .i64 y.proj, .bool y.inj, .int .u8 y.head, .int .i64 y.label, .int .u8 y.frm, .int .u8 y.tto]) ∧ Below w.heap.size w w' := fun W hW =>
    (rt W (hB.trans (hW.mono hB.size))).mono (by rintro e w' ⟨rfl, -, h⟩; exact ⟨rfl, hW.trans (h.mono hW.size)⟩)
  clear rs rt hB hB0
  have hB := Below.refl w.heap.size w
  · go_enter Tryz.func65, Tryz.ntmps65
    go_wp2_with (first | (go_at_call 249; refine (rs' _ hB).mono ?_; rintro e w1 ⟨rfl, hB⟩; clear rs') | (go_at_call 249; refine (rt' _ hB).mono ?_; rintro e w2 ⟨rfl, hB⟩; clear rt') | (go_at_call 248; refine (cn _).mono ?_; rintro e w3 ⟨rfl, rfl⟩) | (at_builtin; go_must (refine wpList_app rfl _ _ rfl w0 _ lv l rfl (HO.out.below (below_al2 hB _ _)) (HB0.out.trans ((below_al2 hB _ _).mono HB0.out.size)) ⟨b', o', none⟩ ns ns fl rfl HF.out (HS.out _ (HB0.out.trans ((below_al2 hB _ _).mono HB0.out.size))) (by omega) (by omega) ?_); intro v' w' hO' hB' hK' hg' hf'))
    go_ret
    exact ⟨v', rfl, hO', hB', (Keep.of (below_al2 hB _ _)).trans hK'⟩
end Go.Proofs.YtkmoeflodafoeaaGreatDoor
