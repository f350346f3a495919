/- The document's Then. -/
import Derived.Test.YtaaokecdmbmgbaaGreatDoorUbj
import Derived.Test.YtaaokecdmbmgbaaGreatDoorUbo
import Derived.Test.YtaaokecdmbmgbaaGreatDoorUbm
namespace Go.Proofs.YtaaokecdmbmgbaaGreatDoor
open Go.RowKit Cc
set_option maxRecDepth 100000
set_option linter.unusedSimpArgs false
set_option linter.unusedVariables false
namespace Cc
theorem top8 {w : World} {x : N} {kv : Value} {o : Obj} (h : o = .cells (tcells x kv) 31 (0, 0)) : (w.alloc o).heap[w.heap.size]? = some (.cells (tcells x kv) 31 (0, 0)) := by rw [heap_top, h]
theorem keep8 {w w' : World} {b : Nat} {x : N} {kv : Value} (h : w.heap[b]? = some (.cells (tcells x kv) 31 (0, 0))) (hB : Below w.heap.size w w') : w'.heap[b]? = some (.cells (tcells x kv) 31 (0, 0)) :=
  (hB.block b (Array.getElem?_eq_some_iff.1 h).1).trans h
theorem al_b (w : World) (o : Obj) : Below w.heap.size w (w.alloc o) := (Below.refl _ _).alloc (Nat.le_refl _) _
theorem tn_no {w w' : World} {s t : C} (hm : meets s t = false) : TnEnd w (some s) (some t) (.returned (.tuple #[.slice none 0 0, .int .i64 30])) w' := by simp [TnEnd, hm]
theorem tn_yes {w w' : World} {s t : C} {v : Value} (hm : meets s t = true) (h : Own w w' v (flat (thn s t))) : TnEnd w (some s) (some t) (.returned (.tuple #[v, .int .i64 0])) w' := by
  simp only [TnEnd, hm, if_true]
  exact ⟨v, rfl, h⟩
end Cc
set_option maxHeartbeats 3200000 in
theorem dThen_any (ls lt : List N) (vs vt : Value) (w : World) (h1 : IsCos w vs ls) (h2 : IsCos w vt lt) (hl1 : ls.length ≤ 100000) (hl2 : lt.length ≤ 100000) :
    Calls Tryz.prog 11 #[vs, vt] w fun e w' => TnEnd w (Cc.whole ls) (Cc.whole lt) e w' ∧ Below w.heap.size w w' := by
  have hr1 : ∀ W, Below w.heap.size w W → Calls Tryz.prog 8 #[vs] W fun e w' => RrEnd W (Cc.whole ls) e w' ∧ Below W.heap.size W w' := fun W hW => dRead_any ls vs W (h1.below hW) (by omega)
  have hr2 : ∀ W, Below w.heap.size w W → Calls Tryz.prog 8 #[vt] W fun e w' => RrEnd W (Cc.whole lt) e w' ∧ Below W.heap.size W w' := fun W hW => dRead_any lt vt W (h2.below hW) (by omega)
  obtain ⟨sa, sc, rfl⟩ := h1.form
  obtain ⟨ta, tc, rfl⟩ := h2.form
  have hB := Below.refl w.heap.size w
  clear h1 h2
  cases e1 : Cc.whole ls with
  | none =>
    rw [e1] at hr1
    have HR1 : Calls Tryz.prog 8 #[.slice sa ls.length sc] w fun e w' => (∃ x : N, ∃ a n c, e = .returned (.tuple #[tree x (.slice a n c), .bool false])) ∧ Below w.heap.size w w' := hr1 w hB
    clear hr1 hr2
    go_enter Tryz.func11, Tryz.ntmps11
    go_wp2_with (go_at_call 8; refine HR1.mono ?_; rintro e w1 ⟨⟨x, xa, xn, xc, rfl⟩, hB1⟩)
    go_ret2
    exact ⟨rfl, hB1.trans ((al_b _ _).mono hB1.size)⟩
  | some s =>
    rw [e1] at hr1
    have HR1 : Calls Tryz.prog 8 #[.slice sa ls.length sc] w fun e w' => ∃ a n c, e = .returned (.tuple #[tree (nod s) (.slice a n c), .bool true]) ∧ DT w' w.heap.size w'.heap.size s (.slice a n c) ∧ Below w.heap.size w w' := (hr1 w hB).mono (by
      rintro e w' ⟨⟨kv, rfl, hd⟩, hb⟩
      obtain ⟨a, n, c, rfl⟩ := hd.form
      exact ⟨a, n, c, rfl, hd, hb⟩)
    clear hr1
    have gs := (whole_iff.1 e1).2.1.1
    have ls1 : size s ≤ 100000 := by rw [← flat_len, ← (whole_iff.1 e1).1]; exact hl1
    cases e2 : Cc.whole lt with
    | none =>
      rw [e2] at hr2
      have HR2 : ∀ W, Below w.heap.size w W → Calls Tryz.prog 8 #[.slice ta lt.length tc] W fun e w' => (∃ x : N, ∃ a n c, e = .returned (.tuple #[tree x (.slice a n c), .bool false])) ∧ Below W.heap.size W w' := hr2
      clear hr2 e1 e2 gs ls1
      go_enter Tryz.func11, Tryz.ntmps11
      go_wp2_with (first | (go_at_call 8; refine HR1.mono ?_; rintro e w1 ⟨ka, kn, kc, rfl, hd1, hB1⟩; clear HR1 hd1; have HW1 : Aside (∀ o, Below w.heap.size w (w1.alloc o)) := fun o => hB1.trans ((al_b _ _).mono hB1.size)) | (go_at_call 8; refine (HR2 _ (HW1.out _)).mono ?_; rintro e w2 ⟨⟨x, xa, xn, xc, rfl⟩, hB2⟩; have HB2 : Aside _ := (HW1.out _).trans (hB2.mono (HW1.out _).size); clear hB2 HR2))
      go_ret2
      exact ⟨rfl, HB2.out.trans ((al_b _ _).mono HB2.out.size)⟩
    | some t =>
      rw [e2] at hr2
      have HR2 : ∀ W, Below w.heap.size w W → Calls Tryz.prog 8 #[.slice ta lt.length tc] W fun e w' => ∃ a n c, e = .returned (.tuple #[tree (nod t) (.slice a n c), .bool true]) ∧ DT w' W.heap.size w'.heap.size t (.slice a n c) ∧ Below W.heap.size W w' := fun W hW => (hr2 W hW).mono (by
        rintro e w' ⟨⟨kv, rfl, hd⟩, hb⟩
        obtain ⟨a, n, c, rfl⟩ := hd.form
        exact ⟨a, n, c, rfl, hd, hb⟩)
      clear hr2
      have gt := (whole_iff.1 e2).2.1.1
      have ls2 : size t ≤ 100000 := by rw [← flat_len, ← (whole_iff.1 e2).1]; exact hl2
      have hz9 : size (thn s t) ≤ 1000000 := Nat.le_trans (size_thn s t) (by omega)
      have CM := fun (vs vt : Value) (W : World) (h2 : DT2 W s t vs vt) => dMeets_any s t vs vt W gs gt h2
      have CB := fun (hm : meets s t = true) (vs vt : Value) (W : World) (hs : DT W 0 W.heap.size s vs) (ht : DT W 0 W.heap.size t vt) => dBoth_any s t vs vt W W.heap.size gs gt hm hs ht (Nat.le_refl _)
      have CL := fun (v : Value) (W : World) (hd : DT W 0 W.heap.size (thn s t) v) => dList_any (thn s t) v 0 W.heap.size W hd (Nat.le_refl _) hz9
      clear e1 e2 gs gt ls1 ls2
      clear hz9
      generalize nod s = x at *
      generalize nod t = y at *
      go_enter Tryz.func11, Tryz.ntmps11
      go_upto_region 7 with (first | (go_at_call 8; refine HR1.mono ?_; rintro e w1 ⟨ka, kn, kc, rfl, hd1, hB1⟩; have HD1 : Aside (DT w1 w.heap.size w1.heap.size s (.slice ka kn kc)) := hd1; have HB1 : Aside (Below w.heap.size w w1) := hB1; clear HR1 hd1 hB1) | (go_at_call 8; refine (HR2 _ (HB1.out.trans ((al_b _ _).mono HB1.out.size))).mono ?_; rintro e w2 ⟨la, ln, lc, rfl, hd2, hB2⟩; have HD2 : Aside _ := hd2; have HB2 : Aside _ := hB2; clear HR2 hd2 hB2))
      obtain ⟨W3, hW3⟩ : ∃ W3, W3 = w2.alloc (.cells #[.int .i8 y.op, .int .i64 y.proj, .bool y.inj, .int .u8 y.head, .int .i64 y.label, .int .u8 y.frm, .int .u8 y.tto, .slice la ln lc] 31) := ⟨_, rfl⟩
      have hb3 : Below w2.heap.size w2 W3 := by rw [hW3]; exact al_b _ _
      have H6 : W3.heap[w1.heap.size]? = some (.cells (tcells x (.slice ka kn kc)) 31 (0, 0)) := keep8 (keep8 (top8 (x := x) (kv := .slice ka kn kc) rfl) HB2.out) hb3
      have H8 : W3.heap[w2.heap.size]? = some (.cells (tcells y (.slice la ln lc)) 31 (0, 0)) := by rw [hW3]; exact top8 rfl
      have hb13 : Below w1.heap.size w1 W3 := ((al_b w1 _).trans (HB2.out.mono (al_b w1 _).size)).trans (hb3.mono (Nat.le_trans (al_b w1 _).size HB2.out.size))
      have D1 : DT W3 0 W3.heap.size s (.slice ka kn kc) := (HD1.out.below (Nat.le_refl _) hb13).mono (Nat.zero_le _) hb13.size
      have D2 : DT W3 0 W3.heap.size t (.slice la ln lc) := (HD2.out.below (Nat.le_refl _) hb3).mono (Nat.zero_le _) hb3.size
      have HB3 : Aside (Below w.heap.size w W3) := HB1.out.trans (hb13.mono HB1.out.size)
      rw [← hW3]
      clear hW3 hb3 hb13 HD1 HD2 HB1 HB2
      generalize w1.heap.size = K6 at *
      generalize w2.heap.size = K8 at *
      obtain ⟨⟨s0, s1, s2, s3, s4, s5, s6, s7⟩, -⟩ := tcells_at H6
      obtain ⟨⟨t0, t1, t2, t3, t4, t5, t6, t7⟩, -⟩ := tcells_at H8
      have HH6 : Aside (W3.heap[K6]? = some (.cells (tcells x (.slice ka kn kc)) 31 (0, 0))) := H6
      have HH8 : Aside (W3.heap[K8]? = some (.cells (tcells y (.slice la ln lc)) 31 (0, 0))) := H8
      have HD1 : Aside (DT W3 0 W3.heap.size s (.slice ka kn kc)) := D1
      have HD2 : Aside (DT W3 0 W3.heap.size t (.slice la ln lc)) := D2
      have cm := CM _ _ W3 ⟨⟨0, _, D1, Nat.le_refl _⟩, ⟨0, _, D2, Nat.le_refl _⟩⟩
      clear CM D1 D2 H6 H8
      cases hm : meets s t with
      | false =>
        rw [hm] at cm
        clear CB CL
        go_wp2_with (go_at_call 9; refine cm.mono ?_; rintro e w4 ⟨rfl, hB4⟩)
        go_ret2
        exact ⟨tn_no hm, HB3.out.trans (hB4.mono HB3.out.size)⟩
      | true =>
        rw [hm] at cm
        have CB := CB hm
        go_wp2_with (first | (go_at_call 9; refine cm.mono ?_; rintro e w4 ⟨rfl, hB4⟩; clear s0 s1 s2 s3 s4 s5 s6 s7 t0 t1 t2 t3 t4 t5 t6 t7; obtain ⟨⟨s0, s1, s2, s3, s4, s5, s6, s7⟩, -⟩ := tcells_at (keep8 HH6.out hB4); obtain ⟨⟨t0, t1, t2, t3, t4, t5, t6, t7⟩, -⟩ := tcells_at (keep8 HH8.out hB4); have HB4 : Aside (Below W3.heap.size W3 w4) := hB4; clear hB4 cm) | (go_at_call 31; refine (CB _ _ w4 ((HD1.out.below (Nat.le_refl _) HB4.out).mono (Nat.zero_le _) HB4.out.size) ((HD2.out.below (Nat.le_refl _) HB4.out).mono (Nat.zero_le _) HB4.out.size)).mono ?_; rintro e w5 ⟨⟨ra, rn, rc, rfl, hq⟩, hB5⟩; have HQ : Aside _ := hq; have HB5 : Aside (Below w4.heap.size w4 w5) := hB5; clear hq hB5 CB) | (go_at_call 30; refine (CL _ w5 (DQ.toDT (fun q hq => ⟨Nat.zero_le _, by have := HB5.out.size; omega⟩) HQ.out)).mono ?_; rintro e w6 ⟨v6, rfl, ho6, hB6⟩; have HO6 : Aside _ := ho6; have HB6 : Aside (Below w5.heap.size w5 w6) := hB6; clear ho6 hB6 CL))
        go_ret2
        have b4 := HB3.out.trans (HB4.out.mono HB3.out.size)
        have b5 := b4.trans (HB5.out.mono b4.size)
        exact ⟨tn_yes hm (Own.lower (w1 := w5) HO6.out b5.size), b5.trans (HB6.out.mono b5.size)⟩
end Go.Proofs.YtaaokecdmbmgbaaGreatDoor
