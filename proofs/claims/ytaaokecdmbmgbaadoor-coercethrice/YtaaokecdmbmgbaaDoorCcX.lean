/- Package coerce: lay of two function types. -/
import Derived.Test.YtaaokecdmbmgbaaDoorCcW
import Derived.StillTailTactics
namespace Go.Proofs.YtaaokecdmbmgbaaDoor
open Go.RowKit Cc
set_option maxRecDepth 100000
set_option linter.unusedSimpArgs false
set_option linter.unusedVariables false
namespace Cc
theorem Own.drew {w0 w : World} {v : Value} {l : List N} (h : Own w0 w v l) : Own w0 w.drew v l := ⟨h.1, h.2⟩
/-- A row of two texts, in a block of texts. -/
structure Tw2 (W : World) (g : Nat) (x y : ByteArray) : Prop where
  c0 : W.cell? ⟨g, 0, none⟩ = some (.string x)
  c1 : W.cell? ⟨g, 1, none⟩ = some (.string y)
  bk : ∃ cs, W.heap[g]? = some (Obj.cells cs 9 (0, 0))
theorem Tw2.lt {W : World} {g : Nat} {x y : ByteArray} (h : Tw2 W g x y) : g < W.heap.size := by
  obtain ⟨cs, e⟩ := h.bk
  exact (Array.getElem?_eq_some_iff.1 e).1
theorem Tw2.keep {W W' : World} {g : Nat} {x y : ByteArray} (h : Tw2 W g x y) (hk : Keep W W') : Tw2 W' g x y := by
  obtain ⟨cs, e⟩ := h.bk
  have hb := hk.kp g cs 9 (0, 0) e (by decide)
  exact ⟨(World.cell?_of_block (a := ⟨g, 0, none⟩) hb).trans h.c0, (World.cell?_of_block (a := ⟨g, 1, none⟩) hb).trans h.c1, cs, hb.trans e⟩
theorem own_two' {W : World} {B : Nat} {v : Value} {x y : List UInt8} (h : W.ownsRow B 9 1 v 2 (T3.tcells [x, y])) : ∃ g k, v = .slice (some ⟨g, 0, none⟩) 2 k ∧ Tw2 W g (T3.S x) (T3.S y) := by
  obtain ⟨g, k, e, h1, h2, h3, h4⟩ := own_two h
  rcases h.2 with ⟨_, hn⟩ | ⟨g', cap, cur, e', -, hb, -⟩
  · omega
  · rw [e] at e'
    injection e' with e' _ _
    injection e' with e'
    injection e' with e' _ _
    subst e'
    exact ⟨g, k, e, h3, h4, cur, hb⟩
end Cc
theorem parts_f2 (a b : T3.Tp.Ty) (h : (T3.Tp.enc (.tf a b)).length ≤ 64) (W : World) :
    Calls Tryd.prog 52 #[.string (T3.S (T3.Tp.enc (.tf a b)))] W fun e w' => ∃ g k, e = .returned (.slice (some ⟨g, 0, none⟩) 2 k) ∧ Tw2 w' g (T3.S (T3.Tp.enc a)) (T3.S (T3.Tp.enc b)) ∧ Below W.heap.size W w' := by
  refine (T3.parts_yes (.tf a b) h W).mono ?_
  rintro e w' ⟨v, rfl, hO, hB⟩
  obtain ⟨g, k, rfl, h1⟩ := own_two' hO
  exact ⟨g, k, rfl, h1, hB⟩
def Cc.LyC (s1 s2 : ByteArray) (p : Int) (r : List N) : Prop := ∀ (w0 W : World) (lv : Value) (l : List N), Below w0.heap.size w0 W → Own w0 W lv l → l.length ≤ 1000 → Calls Tryd.prog 30 #[lv, .string s1, .string s2, .int .i64 p] W (ThEnd w0 W (l ++ r))
set_option maxHeartbeats 6400000 in
theorem lay_f (a b c d : T3.Tp.Ty) (h1 : (T3.Tp.enc (.tf a b)).length ≤ 64) (h2 : (T3.Tp.enc (.tf c d)).length ≤ 64) (p : Int) (hp : -100 ≤ p ∧ p ≤ 100) (r1 r2 : List N) (k1 : LyC (T3.S (T3.Tp.enc c)) (T3.S (T3.Tp.enc a)) (-p) r1) (k2 : LyC (T3.S (T3.Tp.enc b)) (T3.S (T3.Tp.enc d)) p r2) (hr : r1.length ≤ 100)
    (w0 w : World) (lv : Value) (l : List N) (hB : Below w0.heap.size w0 w) (hO : Own w0 w lv l) (hl : l.length ≤ 100) :
    Calls Tryd.prog 30 #[lv, .string (T3.S (T3.Tp.enc (.tf a b))), .string (T3.S (T3.Tp.enc (.tf c d))), .int .i64 p] w (ThEnd w0 w (((l ++ [⟨3, 0, false, 62, 0, 0, 0⟩]) ++ r1) ++ r2)) := by
  have cp1 := parts_f2 a b h1
  have cp2 := parts_f2 c d h2
  have ch := T3.head_yes (.tf a b) h1
  have hh : (T3.Tp.hd (.tf a b)).toNat = 62 := rfl
  rw [hh] at ch
  have co : ∀ W, Calls Tryd.prog 54 #[.int .u8 62] W fun e w' => e = .returned (.int .i8 3) ∧ w' = W := fun W => opOf_any 62 W
  have n1 : ((T3.S (T3.Tp.enc (.tf a b))).toList == [63]) = false := by rw [ByteArray.toList_eq]; simp [T3.S, T3.Tp.enc]
  have n2 : ((T3.S (T3.Tp.enc (.tf c d))).toList == [63]) = false := by rw [ByteArray.toList_eq]; simp [T3.S, T3.Tp.enc]
  have K1 : Aside (LyC (T3.S (T3.Tp.enc c)) (T3.S (T3.Tp.enc a)) (-p) r1) := k1
  have K2 : Aside (LyC (T3.S (T3.Tp.enc b)) (T3.S (T3.Tp.enc d)) p r2) := k2
  clear hh k1 k2 h1 h2
  generalize T3.S (T3.Tp.enc (.tf a b)) = s1 at *
  generalize T3.S (T3.Tp.enc (.tf c d)) = s2 at *
  generalize T3.S (T3.Tp.enc a) = sa at *
  generalize T3.S (T3.Tp.enc b) = sb at *
  generalize T3.S (T3.Tp.enc c) = sc at *
  generalize T3.S (T3.Tp.enc d) = sd at *
  have HO : Aside (Own w0 w lv l) := hO
  have HB : Aside (Below w0.heap.size w0 w) := hB
  have HL : Aside (l.length ≤ 100 ∧ r1.length ≤ 100) := ⟨hl, hr⟩
  clear hO hB hl hr
  obtain ⟨M, hM⟩ : ∃ M, M = ((l ++ [(⟨3, 0, false, 62, 0, 0, 0⟩ : N)]) ++ r1) ++ r2 := ⟨_, rfl⟩
  rw [← hM]
  have HM : Aside (M = ((l ++ [(⟨3, 0, false, 62, 0, 0, 0⟩ : N)]) ++ r1) ++ r2) := hM
  clear hM
  obtain ⟨hp1, hp2⟩ := hp
  go_enter Tryd.func30, Tryd.ntmps30
  go_wp2_with (first | (go_at_call 53; refine (ch _).mono ?_; rintro e w2 ⟨rfl, rfl⟩) | (go_at_call 54; refine (co _).mono ?_; rintro e w3 ⟨rfl, rfl⟩) | (at_builtin; go_must (refine wpList_app rfl _ _ rfl w0 _ lv l rfl ((Fil.start HO.out HB.out _).alloc _).own ((Fil.start HO.out HB.out _).alloc _).bl ⟨w.heap.size + 1, 0, none⟩ 1 1 _ rfl rfl (cells_new _ _ _ _ _ _ _ _ _ _ (by simp)) (by decide) (by have := HL.out; omega) ?_); intro v' w' hO' hB' hK' hg' hf'; have HO' : Aside (Own w0 w' v' _) := hO'; have HB' : Aside (Below w0.heap.size w0 w') := hB'; have HK' : Aside (Keep w w') := ((Fil.start HO.out HB.out _).alloc _).kp.trans hK'; have r0 : w'.cell? ⟨w.heap.size, 0, none⟩ = some (.int .i8 3) := (((Fil.start HO.out HB.out _).alloc _).cell hg' 0).trans (by go_simp); have hlt' : w.heap.size < w'.heap.size := Nat.lt_of_lt_of_le ((Fil.start HO.out HB.out _).alloc _).lt hg'.size; clear hO' hB' hK' hg' hf') | (go_at_call 52; refine (cp1 _).mono ?_; rintro e w4 ⟨g1, k1, rfl, hT1, hB4⟩; clear cp1; have HT1 : Aside (Tw2 w4 g1 sa sb) := hT1; have r0 := (hB4.cell (p := ⟨w.heap.size, 0, none⟩) hlt').trans r0; have hlt' := Nat.lt_of_lt_of_le hlt' hB4.size; have HO' : Aside (Own w0 w4 v' _) := HO'.out.below hB4; have HB' : Aside (Below w0.heap.size w0 w4) := HB'.out.trans (hB4.mono HB'.out.size); have HK' : Aside (Keep w w4) := HK'.out.trans (Keep.of hB4); clear hB4 hT1) | (go_at_call 52; refine (cp2 _).mono ?_; rintro e w5 ⟨g2, k2, rfl, hT2, hB4⟩; clear cp2; have HT2 : Aside (Tw2 w5 g2 sc sd) := hT2; have HT1 : Aside (Tw2 w5 g1 sa sb) := HT1.out.keep (Keep.of hB4); have r0 := (hB4.cell (p := ⟨w.heap.size, 0, none⟩) hlt').trans r0; have HO' : Aside (Own w0 w5 v' _) := HO'.out.below hB4; have HB' : Aside (Below w0.heap.size w0 w5) := HB'.out.trans (hB4.mono HB'.out.size); have HK' : Aside (Keep w w5) := HK'.out.trans (Keep.of hB4); clear hB4 hT2 hlt'))
  clear r0
  have c10 := HT1.out.c0
  have c20 := HT2.out.c0
  have hmix : Tryd.prog.follows .mixedOrders = true := by kernel_rfl
  have hneg : IntKind.i64.wrap (-p) = -p := IntWalk.i64_in _ ⟨by omega, by omega⟩
  go_wp2_with fail
  go_still_tail 9, hmix
  go_wp2_with fail
  refine (K1.out w0 w5.drew v' (l ++ [(⟨3, 0, false, 62, 0, 0, 0⟩ : N)]) HB'.out.drew HO'.out.drew (by have := HL.out; simp; omega)).mono ?_
  rintro e w6 ⟨v6, rfl, hO6, hB6, hK6⟩
  have HO6 : Aside (Own w0 w6 v6 ((l ++ [⟨3, 0, false, 62, 0, 0, 0⟩]) ++ r1)) := hO6
  have HB6 : Aside (Below w0.heap.size w0 w6) := hB6
  have hK5 : Keep w5 w6 := ⟨hK6.sz, hK6.kp⟩
  have HK6 : Aside (Keep w w6) := HK'.out.trans hK5
  have c11 := (HT1.out.keep hK5).c1
  have c21 := (HT2.out.keep hK5).c1
  clear hO6 hB6 hK6 hK5 c10 c20 HO' HB' HK' HT1 HT2
  go_wp2_with fail
  go_still_tail 8, hmix
  go_wp2_with fail
  refine (K2.out w0 w6.drew v6 ((l ++ [(⟨3, 0, false, 62, 0, 0, 0⟩ : N)]) ++ r1) HB6.out.drew HO6.out.drew (by have := HL.out; simp; omega)).mono ?_
  rintro e w7 ⟨v7, rfl, hO7, hB7, hK7⟩
  have hK8 : Keep w6 w7 := ⟨hK7.sz, hK7.kp⟩
  have HE : Aside (Own w0 w7 v7 M ∧ Below w0.heap.size w0 w7 ∧ Keep w w7) := ⟨by rw [HM.out]; exact hO7, hB7, HK6.out.trans hK8⟩
  clear hO7 hB7 hK7 hK8 c11 c21
  go_wp2_with fail
  go_ret
  exact ⟨v7, rfl, HE.out.1, HE.out.2.1, HE.out.2.2⟩
end Go.Proofs.YtaaokecdmbmgbaaDoor
