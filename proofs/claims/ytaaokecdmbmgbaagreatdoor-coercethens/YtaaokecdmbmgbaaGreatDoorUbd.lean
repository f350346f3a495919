/- Regions that draw their order, whose callees make memory but hand back one value: one walk, in the text's order. Lists of nodes of coercions with marks behind them: WideCos, SpareCos. The bag's rows of nodes of coercions: marks, appends, who owns which block. -/
import Derived.Test.YtaaokecdmbmgbaaGreatDoorRows
import Derived.BigQuiet
import Derived.WalkKit
import Derived.Test.YtaaokecdmbmgbaaGreatDoorUav
import Derived.Deep.DeepAppendRoom
import Derived.ArgAppend
import Derived.Deep.RegionWith
namespace Go.Proofs.YtaaokecdmbmgbaaGreatDoor
/-- The worlds that meet S, as a type: so a fact of all of them is a rule without a condition. -/
structure Cls (S : World → Prop) where
  w : World
  h : S w
theorem wp_region_calm {P : Program} (S : World → Prop) {id : Nat} {Q : Exit → Act → World → Prop} {a : Act} {w : World} {l : List Oper} (hm : P.follows .mixedOrders = true) (hB : Region.lexB .any l.toArray = true) (h0 : S w.drew)
    (h : wpQuiet P l.toArray (fun w' => ∃ x : Cls S, w' = x.w) (fun a' => ∀ w', (∃ x : Cls S, w' = x.w) → Q .normal a' w') l a) : (Code.region id l.toArray true).wp P Q a w :=
  wp_region_quiet (C := fun w' => ∃ x : Cls S, w' = x.w) hm hB ⟨⟨w.drew, h0⟩, rfl⟩ (by simpa using h)
theorem calls_calm {P : Program} {f : FuncId} {args : Array Value} {S : World → Prop} {W : World} {v : Value} (h : Calls P f args W fun e w' => e = .returned v ∧ S w') : Calls P f args W fun e w' => e = .returned v ∧ ∃ x : Cls S, w' = x.w :=
  h.mono fun _ w' ⟨he, hs⟩ => ⟨he, ⟨w', hs⟩, rfl⟩
end Go.Proofs.YtaaokecdmbmgbaaGreatDoor
namespace Go.Proofs.YtaaokecdmbmgbaaGreatDoor
open Go.RowKit Cc
set_option maxRecDepth 100000
set_option linter.unusedSimpArgs false
set_option linter.unusedVariables false
set_option maxHeartbeats 400000 in
theorem num_any (n i : Int) (hn : 0 ≤ n ∧ n ≤ 100) (hi : 0 ≤ i ∧ i ≤ 4611686018427387904) (w : World) :
    Calls Tryz.prog 23 #[.int .i64 n, .int .i64 i] w fun e w' => e = .returned (.int .i64 (1048576 * n + i + 1)) ∧ w' = w := by
  obtain ⟨h1, h2⟩ := hn
  obtain ⟨h3, h4⟩ := hi
  go_enter Tryz.func23, Tryz.ntmps23
  go_wp2
  go_ret
  exact ⟨rfl, rfl⟩
namespace Cc
/-- A mark. -/
def mark (n i : Nat) : N := ⟨0, 0, false, 0, 1048576 * (n : Int) + (i : Int) + 1, 0, 0⟩
/-- What WideCos lays at a place. -/
def wdN (l : List N) (i : Nat) : N := (l[i]?).getD (mark 9 i)
theorem wdN_in {l : List N} {i : Nat} {x : N} (h : l[i]? = some x) : wdN l i = x := by unfold wdN; rw [h]; rfl
theorem wdN_out {l : List N} {i : Nat} (h : l.length ≤ i) : wdN l i = mark 9 i := by unfold wdN; rw [List.getElem?_eq_none h]; rfl
theorem set_facts {w : World} {g : Nat} {cur : Array Value} {T : TypeId} (h : w.heap[g]? = some (.cells cur T (0, 0))) {k : Nat} (hk : k < cur.size) (x : Value) : ∃ cur', (w.setCell ⟨g, k, none⟩ x).heap[g]? = some (.cells cur' T (0, 0)) ∧ cur'.size = cur.size ∧ cur'[k]? = some x ∧ ∀ j, j ≠ k → cur'[j]? = cur[j]? := by
  refine ⟨cur.setIfInBounds k x, by simp [World.setCell, Array.getElem?_modify, h], by simp, by simp [hk], fun j hj => by rw [Array.getElem?_setIfInBounds_ne (Ne.symm hj)]⟩
/-- Seven cells, one behind the other. -/
def put7 (w : World) (g o : Nat) (x : N) : World :=
  ((((((w.setCell ⟨g, o, none⟩ (.int .i8 x.op)).setCell ⟨g, o + 1, none⟩ (.int .i64 x.proj)).setCell ⟨g, o + 2, none⟩ (.bool x.inj)).setCell ⟨g, o + 3, none⟩ (.int .u8 x.head)).setCell ⟨g, o + 4, none⟩ (.int .i64 x.label)).setCell ⟨g, o + 5, none⟩ (.int .u8 x.frm)).setCell ⟨g, o + 6, none⟩ (.int .u8 x.tto)
theorem put7_facts {w : World} {g : Nat} {cur : Array Value} {T : TypeId} (h : w.heap[g]? = some (.cells cur T (0, 0))) {o : Nat} (ho : o + 7 ≤ cur.size) (x : N) :
    ∃ cur', (put7 w g o x).heap[g]? = some (.cells cur' T (0, 0)) ∧ cur'.size = cur.size ∧ (∀ i u, (ncell x)[i]? = some u → cur'[o + i]? = some u) ∧ ∀ j, (j < o ∨ o + 7 ≤ j) → cur'[j]? = cur[j]? := by
  obtain ⟨c1, a1, b1, e1, f1⟩ := set_facts h (k := o) (by omega) (.int .i8 x.op)
  obtain ⟨c2, a2, b2, e2, f2⟩ := set_facts a1 (k := o + 1) (by omega) (.int .i64 x.proj)
  obtain ⟨c3, a3, b3, e3, f3⟩ := set_facts a2 (k := o + 2) (by omega) (.bool x.inj)
  obtain ⟨c4, a4, b4, e4, f4⟩ := set_facts a3 (k := o + 3) (by omega) (.int .u8 x.head)
  obtain ⟨c5, a5, b5, e5, f5⟩ := set_facts a4 (k := o + 4) (by omega) (.int .i64 x.label)
  obtain ⟨c6, a6, b6, e6, f6⟩ := set_facts a5 (k := o + 5) (by omega) (.int .u8 x.frm)
  obtain ⟨c7, a7, b7, e7, f7⟩ := set_facts a6 (k := o + 6) (by omega) (.int .u8 x.tto)
  refine ⟨c7, a7, by omega, fun i u hu => ?_, fun j hj => ?_⟩
  · have hi : i < 7 := by have := (List.getElem?_eq_some_iff.1 hu).1; simpa [ncell] using this
    obtain rfl | rfl | rfl | rfl | rfl | rfl | rfl : i = 0 ∨ i = 1 ∨ i = 2 ∨ i = 3 ∨ i = 4 ∨ i = 5 ∨ i = 6 := by omega
    · rw [f7 _ (by omega), f6 _ (by omega), f5 _ (by omega), f4 _ (by omega), f3 _ (by omega), f2 _ (by omega)]; rw [Nat.add_zero, e1]; exact hu
    · rw [f7 _ (by omega), f6 _ (by omega), f5 _ (by omega), f4 _ (by omega), f3 _ (by omega), e2]; exact hu
    · rw [f7 _ (by omega), f6 _ (by omega), f5 _ (by omega), f4 _ (by omega), e3]; exact hu
    · rw [f7 _ (by omega), f6 _ (by omega), f5 _ (by omega), e4]; exact hu
    · rw [f7 _ (by omega), f6 _ (by omega), e5]; exact hu
    · rw [f7 _ (by omega), e6]; exact hu
    · rw [e7]; exact hu
  · rw [f7 _ (by omega), f6 _ (by omega), f5 _ (by omega), f4 _ (by omega), f3 _ (by omega), f2 _ (by omega), f1 _ (by omega)]
theorem put7_below {a w : World} {B g o : Nat} (h : Below B a w) (hg : B ≤ g) (x : N) : Below B a (put7 w g o x) :=
  ((((((h.setCell hg _).setCell hg _).setCell hg _).setCell hg _).setCell hg _).setCell hg _).setCell hg _
theorem cells7 {cur : Array Value} {o : Nat} (ho : o + 7 ≤ cur.size) : ∃ u0 u1 u2 u3 u4 u5 u6, cur[o]? = some u0 ∧ cur[o + 1]? = some u1 ∧ cur[o + 2]? = some u2 ∧ cur[o + 3]? = some u3 ∧ cur[o + 4]? = some u4 ∧ cur[o + 5]? = some u5 ∧ cur[o + 6]? = some u6 :=
  ⟨_, _, _, _, _, _, _, Array.getElem?_eq_getElem (by omega), Array.getElem?_eq_getElem (by omega), Array.getElem?_eq_getElem (by omega), Array.getElem?_eq_getElem (by omega), Array.getElem?_eq_getElem (by omega), Array.getElem?_eq_getElem (by omega), Array.getElem?_eq_getElem (by omega)⟩
theorem blk_cells {w : World} {g : Nat} {c : Array Value} {t : TypeId} (h : w.heap[g]? = some (.cells c t (0, 0))) : (∀ o, w.cell? ⟨g, o, none⟩ = c[o]?) ∧ ∀ o, w.frozen? ⟨g, o, none⟩ = false := by
  constructor <;> intro o <;> simp [World.cell?, World.frozen?, h]
/-- A list with its marks behind it, in block g. -/
def Wide (w : World) (g : Nat) (l : List N) : Prop :=
  ∃ cur, w.heap[g]? = some (.cells cur 28 (0, 0)) ∧ cur.size = (l.length + 64) * 7 ∧ ∀ j, j < l.length + 64 → ∀ i u, (ncell (wdN l j))[i]? = some u → cur[j * 7 + i]? = some u
theorem Wide.lt {w : World} {g : Nat} {l : List N} (h : Wide w g l) : g < w.heap.size := by
  obtain ⟨cur, h, _⟩ := h; exact (Array.getElem?_eq_some_iff.1 h).1
theorem Wide.below {w w' : World} {g : Nat} {l : List N} (h : Wide w g l) (hB : Below w.heap.size w w') : Wide w' g l := by
  have := h.lt
  obtain ⟨cur, h1, h2, h3⟩ := h
  exact ⟨cur, by rw [hB.block g this]; exact h1, h2, h3⟩
theorem Wide.cells {w : World} {g : Nat} {l : List N} (h : Wide w g l) {j : Nat} (hj : j < l.length + 64) : ∀ i u, (ncell (wdN l j))[i]? = some u → w.cell? ⟨g, j * 7 + i, none⟩ = some u := by
  intro i u hu
  obtain ⟨cur, h1, h2, h3⟩ := h
  rw [(blk_cells h1).1]
  exact h3 j hj i u hu
theorem at_of_each {w : World} {b : Nat} : ∀ {l : List N} {o : Nat}, (∀ k x, l[k]? = some x → ∀ i u, (ncell x)[i]? = some u → w.cell? ⟨b, o + k * 7 + i, none⟩ = some u) → At w b o l
  | [], _, _ => trivial
  | x :: r, o, h => by
    have h0 := h 0 x rfl
    simp only [Nat.zero_mul, Nat.add_zero] at h0
    refine ⟨⟨h0 0 _ rfl, h0 1 _ rfl, h0 2 _ rfl, h0 3 _ rfl, h0 4 _ rfl, h0 5 _ rfl, h0 6 _ rfl⟩, at_of_each fun k y hy i u hu => ?_⟩
    have := h (k + 1) y (by simpa using hy) i u hu
    rwa [show o + (k + 1) * 7 + i = o + 7 + k * 7 + i by omega] at this
theorem Wide.cos {w : World} {g : Nat} {l : List N} (h : Wide w g l) : IsCos w (.slice (some ⟨g, 0, none⟩) l.length (l.length + 64)) l := by
  by_cases h0 : l.length = 0
  · exact .inl ⟨List.length_eq_zero_iff.1 h0, _, _, by rw [h0]⟩
  · refine .inr ⟨g, 0, _, rfl, by omega, at_of_each fun k x hx i u hu => ?_, h.lt⟩
    have hj : k < l.length := (List.getElem?_eq_some_iff.1 hx).1
    rw [Nat.zero_add]
    exact h.cells (j := k) (by omega) i u (by rw [wdN_in hx]; exact hu)
end Cc
set_option maxHeartbeats 4000000 in
theorem wideCos_any (l : List N) (hl4 : l.length ≤ 1000000) (v : Value) (w : World) (hl : IsCos w v l) :
    Calls Tryz.prog 7 #[v] w fun e w' => e = .returned (.slice (some ⟨w.heap.size, 0, none⟩) l.length (l.length + 64)) ∧ Wide w' w.heap.size l ∧ Below w.heap.size w w' := by
  obtain ⟨i0, hi, hz0, hz1, hz2⟩ := info_parts infoCo
  obtain ⟨a, c, rfl⟩ := hl.form
  go_enter Tryz.func7, Tryz.ntmps7
  go_wp2_with (at_make; refine wpList_make_full _ rfl _ _ 22 rfl w.heap.size 28 i0 _ 7 tyCos hi hz0 hz1 _ _ _ _ (l.length + 64) rfl rfl (by go_num) (by go_num) (by rw [hz2]; omega) (by unfold maxLen; omega) (Nat.le_refl _) ?_; intro w1 hown1 hg1)
  obtain ⟨cur0, hc0, hs0⟩ : ∃ cur, w1.heap[w.heap.size]? = some (.cells cur 28 (0, 0)) ∧ cur.size = (l.length + 64) * 7 := by
    obtain ⟨_, ⟨h, _⟩ | ⟨g, cap, cur, h, _, hh, _, _, hs, _⟩⟩ := hown1
    · cases h
    · cases h; exact ⟨cur, hh, by omega⟩
  have hB1 : Below w.heap.size w w1 := ⟨hg1.os, hg1.tape, hg1.output, hg1.size, fun k hk => hg1.block k hk (by simp)⟩
  clear hown1 hg1
  have HL : Aside (IsCos w (.slice a l.length c) l) := hl
  clear hl
  go_loopg [4] (l.length + 64) (fun m cv wr => ∃ (k : Nat) (cur : Array Value), k + m = l.length + 64 ∧ cv = .int .i64 (k : Int) ∧ wr.heap[w.heap.size]? = some (.cells cur 28 (0, 0)) ∧ cur.size = (l.length + 64) * 7 ∧ Aside (∀ j, j < k → ∀ i u, (ncell (wdN l j))[i]? = some u → cur[j * 7 + i]? = some u) ∧ Below w.heap.size w wr)
  case atStart => exact ⟨0, cur0, by omega, rfl, hc0, hs0, fun j hj => absurd hj (by omega), hB1⟩
  case round =>
    clear hc0 hs0 hB1
    obtain ⟨k, cur, hkg, rfl, hcur, hcs, HJ, hB⟩ := hrel
    have hgl : w.heap.size < wr.heap.size := (Array.getElem?_eq_some_iff.1 hcur).1
    have hk0 : (0 : Int) ≤ (k : Int) := by omega
    by_cases hk : k < l.length + 64
    · have hk2 : (k : Int) < (l.length : Int) + 64 := by omega
      have hfz : ∀ o, wr.frozen? ⟨w.heap.size, o, none⟩ = false := (blk_cells hcur).2
      have hbc := (blk_cells hcur).1
      obtain ⟨u0, u1, u2, u3, u4, u5, u6, x0, x1, x2, x3, x4, x5, x6⟩ := cells7 (cur := cur) (o := k * 7) (by omega)
      have y0 := (hbc (k * 7)).trans x0
      have y1 := (hbc (k * 7 + 1)).trans x1
      have y2 := (hbc (k * 7 + 2)).trans x2
      have y3 := (hbc (k * 7 + 3)).trans x3
      have y4 := (hbc (k * 7 + 4)).trans x4
      have y5 := (hbc (k * 7 + 5)).trans x5
      have y6 := (hbc (k * 7 + 6)).trans x6
      obtain ⟨cur', e1, e2, e3, e4⟩ := put7_facts hcur (o := k * 7) (by omega) (wdN l k)
      have HS : Aside (∃ cur', (put7 wr w.heap.size (k * 7) (wdN l k)).heap[w.heap.size]? = some (.cells cur' 28 (0, 0)) ∧ cur'.size = (l.length + 64) * 7 ∧ ∀ j, j < k + 1 → ∀ i u, (ncell (wdN l j))[i]? = some u → cur'[j * 7 + i]? = some u) := by
        refine ⟨cur', e1, by omega, fun j hj i u hu => ?_⟩
        have hi8 : i < 7 := by have := (List.getElem?_eq_some_iff.1 hu).1; simpa [ncell] using this
        by_cases h : j = k
        · subst h; exact e3 i u hu
        · rw [e4 _ (by omega)]; exact HJ.out j (by omega) i u hu
      have HB : Aside (Below w.heap.size w (put7 wr w.heap.size (k * 7) (wdN l k))) := put7_below hB (Nat.le_refl _) _
      clear e1 e2 e3 e4 hbc x0 x1 x2 x3 x4 x5 x6 HJ
      by_cases hkl : k < l.length
      · have hkl' : (k : Int) < (l.length : Int) := by omega
        obtain ⟨x, hx⟩ : ∃ x, l[k]? = some x := ⟨_, List.getElem?_eq_getElem hkl⟩
        obtain ⟨b1, o1, c1, he, hA⟩ := (HL.out.below hB).at hx
        injection he with he _ hce
        subst he hce
        obtain ⟨p0, p1, p2, p3, p4, p5, p6⟩ := hA
        rw [wdN_in hx] at HS HB
        clear hx HL
        go_wp2_with fail
        go_roundg (gk - 1)
        case measure => omega
        case rel =>
          obtain ⟨c', q1, q2, q3⟩ := HS.out
          exact ⟨k + 1, c', by omega, by go_num, q1, q2, q3, HB.out⟩
      · have hkl' : decide ((k : Int) < (l.length : Int)) = false := by simp; omega
        rw [wdN_out (by omega)] at HS HB
        clear HL
        go_wp2_with (go_at_call 23; refine (num_any _ _ (by omega) (by omega) _).mono ?_; rintro e w' ⟨rfl, hw'⟩; replace hw' := hw'.symm; subst hw')
        go_roundg (gk - 1)
        case measure => omega
        case rel =>
          obtain ⟨c', q1, q2, q3⟩ := HS.out
          exact ⟨k + 1, c', by omega, by go_num, q1, q2, q3, HB.out⟩
    · have hk2 : decide ((k : Int) < (l.length : Int) + 64) = false := by simp; omega
      have hn2 : (l.length : Int) ≤ (l.length : Int) + 64 := by omega
      clear HL
      go_wp2_with fail
      go_ret
      exact ⟨rfl, ⟨cur, hcur, hcs, fun j hj => HJ.out j (by omega)⟩, hB⟩
set_option maxHeartbeats 4000000 in
theorem spareCos_any (l : List N) (hlen : l.length ≤ 1000000) (g : Nat) (w : World) (hW : Wide w g l) :
    Calls Tryz.prog 16 #[.slice (some ⟨g, 0, none⟩) l.length (l.length + 64)] w fun e w' => e = .returned (.bool true) ∧ Below w.heap.size w w' := by
  have hn64 : (l.length : Int) + 64 ≤ ((l.length + 64 : Nat) : Int) := by omega
  have hn0 : (0 : Int) ≤ (l.length : Int) + 64 := by omega
  have hcast : ((l.length : Int) + 64).toNat = l.length + 64 := by omega
  go_enter Tryz.func16, Tryz.ntmps16
  go_wp2_with fail
  go_loopg [4] 64 (fun gg t wr => ∃ k : Nat, k + gg = l.length + 64 ∧ l.length ≤ k ∧ t = .int .i64 (k : Int) ∧ Below w.heap.size w wr)
  case atStart => exact ⟨l.length, by omega, by omega, rfl, Below.refl _ _⟩
  case round =>
    obtain ⟨k, hkg, hlk, rfl, hB⟩ := hrel
    by_cases hk : k < l.length + 64
    · have hk' : (k : Int) < ((l.length : Int) + 64) := by omega
      have hk0 : (0 : Int) ≤ (k : Int) := by omega
      have hcx := (hW.below hB).cells hk
      rw [wdN_out hlk] at hcx
      have p0 : wr.cell? ⟨g, k * 7, none⟩ = some (.int .i8 0) := hcx 0 _ rfl
      have p1 : wr.cell? ⟨g, k * 7 + 1, none⟩ = some (.int .i64 0) := hcx 1 _ rfl
      have p2 : wr.cell? ⟨g, k * 7 + 2, none⟩ = some (.bool false) := hcx 2 _ rfl
      have p3 : wr.cell? ⟨g, k * 7 + 3, none⟩ = some (.int .u8 0) := hcx 3 _ rfl
      have p4 : wr.cell? ⟨g, k * 7 + 4, none⟩ = some (.int .i64 (1048576 * 9 + (k : Int) + 1)) := hcx 4 _ rfl
      have p5 : wr.cell? ⟨g, k * 7 + 5, none⟩ = some (.int .u8 0) := hcx 5 _ rfl
      have p6 : wr.cell? ⟨g, k * 7 + 6, none⟩ = some (.int .u8 0) := hcx 6 _ rfl
      have hnum : ∀ w, Calls Tryz.prog 23 #[.int .i64 9, .int .i64 k] w fun e w' => e = .returned (.int .i64 (9437184 + (k : Int) + 1)) ∧ w' = w := num_any 9 k (by omega) (by omega)
      have hws := hB.size
      clear hcx hW
      go_wp2_with fail
      go_quiet ((go_at_call 23; exact Calls.quiet_of_same (hnum _)))
      go_wp2_with fail
      go_roundg (l.length + 64 - (k + 1))
      case measure => omega
      case rel => exact ⟨k + 1, by omega, by omega, by go_num, below_dN (hB.alloc hws _) _⟩
    · have hk' : ¬ (k : Int) < ((l.length : Int) + 64) := by omega
      go_wp2_with fail
      go_ret
      exact ⟨rfl, hB⟩
end Go.Proofs.YtaaokecdmbmgbaaGreatDoor
namespace Go.Proofs.YtaaokecdmbmgbaaGreatDoor.Cq
open Go.RowKit Cc
set_option maxRecDepth 100000
set_option linter.unusedSimpArgs false
set_option linter.unusedVariables false

/-- The mark of a place of a list, as a number. -/
def mk (n i : Nat) : Int := 1048576 * (n : Int) + (i : Int) + 1
/-- Its cells. -/
def mkc (n i : Nat) : List Value := [.int .i8 0, .int .i64 0, .bool false, .int .u8 0, .int .i64 (mk n i), .int .u8 0, .int .u8 0]
theorem mkc_len (n i : Nat) : (mkc n i).length = 7 := rfl
theorem mkc_one (n i : Nat) : ∀ u ∈ mkc n i, u.oneCell' = true := by
  intro u hu
  simp only [mkc, List.mem_cons, List.mem_nil_iff, or_false] at hu
  rcases hu with rfl | rfl | rfl | rfl | rfl | rfl | rfl <;> rfl
theorem text_any (n i : Nat) (hn : n ≤ 100) (hi : i ≤ 4294967296) (w : World) :
    Calls Tryz.prog 23 #[.int .i64 n, .int .i64 i] w fun e w' => e = .returned (.int .i64 (mk n i)) ∧ w' = w :=
  num_any n i (by omega) (by omega) w
/-- A mark lies there. -/
def MkAt (w : World) (b n i : Nat) : Prop := ∀ k u, (mkc n i)[k]? = some u → w.cell? ⟨b, i * 7 + k, none⟩ = some u
theorem block_cells {w : World} {g : Nat} {C : Array Value} {t : TypeId} (h : w.heap[g]? = some (.cells C t (0, 0))) : (∀ o, w.cell? ⟨g, o, none⟩ = C[o]?) ∧ ∀ o, w.frozen? ⟨g, o, none⟩ = false := by
  constructor <;> intro o <;> simp [World.cell?, World.frozen?, h]
theorem cell_of {w : World} {g : Nat} {C : Array Value} {T : TypeId} {k : Nat} {v : Value} (h : w.heap[g]? = some (.cells C T (0, 0))) (hk : C[k]? = some v) : w.cell? ⟨g, k, none⟩ = some v := ((block_cells h).1 k).trans hk
theorem own_nil (w : World) (base : Nat) (e : TypeId) (sz : Nat) : w.ownsRow base e sz (.slice none 0 0) 0 [] := ⟨by simp, .inl ⟨rfl, rfl⟩⟩
theorem own_len {W : World} {base e size n : Nat} {v : Value} {xs : List Value} (h : W.ownsRow base e size v n xs) : ∃ a c, v = .slice a n c := by
  obtain ⟨_, ⟨rfl, rfl⟩ | ⟨g, cap, cur, rfl, _⟩⟩ := h
  · exact ⟨none, 0, rfl⟩
  · exact ⟨some ⟨g, 0, none⟩, cap, rfl⟩
theorem own_cells {W : World} {base e size n : Nat} {v : Value} {xs : List Value} (h : W.ownsRow base e size v n xs) (hn : 0 < n) : ∃ g cap, v = .slice (some ⟨g, 0, none⟩) n cap ∧ n ≤ cap ∧ base ≤ g ∧ ∀ j, j < n * size → W.cell? ⟨g, j, none⟩ = xs[j]? := by
  obtain ⟨h1, ⟨rfl, h0⟩ | ⟨g, cap, cur, rfl, hg, hh, hc, _, hs, ht⟩⟩ := h
  · omega
  · refine ⟨g, cap, rfl, hc, hg, fun j hj => ?_⟩
    rw [← ht, List.getElem?_take, if_pos hj, Array.getElem?_toList]
    simp [World.cell?, hh]
theorem cells_list_new (w : World) (xs : List Value) (t : TypeId) : ∀ j u, xs[j]? = some u → (w.alloc (.cells xs.toArray t)).cell? ((⟨w.heap.size, 0, none⟩ : Addr).add j) = some u := by
  intro j u hj
  have hb := (block_cells (heap_alloc_new w (.cells xs.toArray t))).1 j
  rw [List.getElem?_toArray, hj] at hb
  by_cases h0 : j = 0
  · subst h0; simpa [Addr.add] using hb
  · simpa [Addr.add, h0] using hb
theorem tyLL : Tryz.prog.underlying 46 = some (.slice 22) := by kernel_rfl
theorem infoL : (Tryz.prog.info? 22).map (fun i => (i.zero, i.size, i.bytes)) = some (some (.slice none 0 0), 1, 24) := by kernel_rfl
theorem tyL : Tryz.prog.underlying 22 = some (.slice 28) := by kernel_rfl
theorem infoE : (Tryz.prog.info? 28).map (fun i => (i.zero, i.size, i.bytes)) = some (some (.agg #[.int .i8 0, .int .i64 0, .bool false, .int .u8 0, .int .i64 0, .int .u8 0, .int .u8 0]), 7, 40) := by kernel_rfl

/-- Every old cell stands, but those of one block from a place on. -/
structure Stays (w w' : World) (row : Option Nat) (n : Nat) : Prop where
  os : w'.os = w.os
  tape : w'.tape = w.tape
  output : w'.output = w.output
  size : w.heap.size ≤ w'.heap.size
  block : ∀ k, k < w.heap.size → some k ≠ row → w'.heap[k]? = w.heap[k]?
  cell : ∀ k j, some k = row → j < n → w'.cell? ⟨k, j, none⟩ = w.cell? ⟨k, j, none⟩

theorem own_pre {w : World} {base e sz n : Nat} {v : Value} {xs : List Value} (h : w.ownsRow base e sz v n xs) {g : Nat} (hg : v.ownBlock = some g) {j : Nat} (hj : j < n * sz) : w.cell? ⟨g, j, none⟩ = xs[j]? := by
  have hn : 0 < n := by
    rcases Nat.eq_zero_or_pos n with h | h
    · subst h; simp at hj
    · exact h
  obtain ⟨g', cap, rfl, _, _, hc⟩ := own_cells h hn
  simp [Value.ownBlock] at hg
  subst hg
  exact hc j hj

theorem wpList_append_stays {P : Program} (w : World) {ops : Array Oper} {rest : List Oper} {o : Oper} {a : Act} {Q : Exit → Act → World → Prop} (hgd : o.guard = none) (s x : Operand) (t : TypeId)
    (ho : o.op = .call { callee := .builtin .append, args := #[s, x], argTypes := #[t, t] })
    (base : Nat) (e : TypeId) (i : TypeInfo) (z : Value) (sz bytes : Nat) (ht : P.underlying t = some (.slice e)) (hi : P.info? e = some i) (hz : i.zero = some z)
    (hsize : i.size = sz) (hby : i.bytes = bytes) (hzs : z.cells.size = sz) (hsz : 0 < sz)
    (v : Value) (n : Nat) (xs : List Value) (hs : a.eval s = v) (hown : w.ownsRow base e sz v n xs)
    (ad : Addr) (c : Nat) (new : List Value) (hnl : new.length = sz) (hx : a.eval x = .slice (some ad) 1 c) (hnews : ∀ j u, new[j]? = some u → w.cell? (ad.add j) = some u) (h1 : ∀ u ∈ new, u.oneCell' = true)
    (h63 : n + 1 ≤ maxLen) (hbytes : (n + 1) * bytes ≤ 140737488355328) (hbase : base ≤ w.heap.size)
    (h : ∀ g cap w', w'.ownsRow base e sz (.slice (some ⟨g, 0, none⟩) (n + 1) cap) (n + 1) (xs ++ new) → Stays w w' v.ownBlock (n * sz) → (v.ownBlock = some g ∨ (w.heap.size ≤ g ∧ g < w'.heap.size)) → wpList P ops Q rest (a.put o.dst (.slice (some ⟨g, 0, none⟩) (n + 1) cap)) w') : wpList P ops Q (o :: rest) a w := by
  have full : ∀ (ao : Option Addr) (cap : Nat), v = .slice ao n cap → (ao = none → n = 0 ∧ cap = 0) → (∀ b, ao = some b → ∀ j u, xs[j]? = some u → w.cell? (b.add j) = some u) → cap < n + 1 → wpList P ops Q (o :: rest) a w := by
    intro ao cap hv hnone holds hfull
    refine wpList_append_grows w hgd s x t ho e i z sz bytes ht hi hz hsize hby hzs hsz ao n cap xs (hs.trans hv) hnone hown.1 holds ad 1 c new hx (by rw [hnl, Nat.one_mul]) hnews h1 hfull h63 hbytes ?_
    intro v' w' ho' hg'
    obtain ⟨hl, ⟨_, h0⟩ | ⟨g, cap', cur, rfl, hg1, hg2, hg3⟩⟩ := ho'
    · omega
    · refine h g cap' w' ⟨hl, .inr ⟨g, cap', cur, rfl, Nat.le_trans hbase hg1, hg2, hg3⟩⟩ ⟨hg'.os, hg'.tape, hg'.output, hg'.size, fun k hk _ => hg'.block k hk (by simp), ?_⟩ (.inr ⟨hg1, ?_⟩)
      · intro k j hk hj
        have hkl : k < w.heap.size := by
          have := own_pre hown hk.symm hj
          have hxs : j < xs.length := by rw [hown.1]; exact hj
          rw [List.getElem?_eq_getElem hxs] at this
          exact World.block_lt_of_cell? w _ this
        exact World.cell?_of_block (hg'.block k hkl (by simp))
      · exact (Array.getElem?_eq_some_iff.1 hg2).1
  rcases hown.2 with ⟨hv, hn⟩ | ⟨g, cap, cur, hv, hbg, hg, hnc, hcm, hcs, htake⟩
  · exact full none 0 (by rw [hv, hn]) (fun _ => ⟨hn, rfl⟩) (fun b hb => by cases hb) (by omega)
  · by_cases hr : n + 1 ≤ cap
    · subst hv
      refine wpList_append_own_spare w hgd s x t ho base e i sz ht hi hsize g n cap xs hs hown ad 1 c new hx (by rw [hnl, Nat.one_mul]) hnews h1 hr ?_
      intro w' ho' hg'
      refine h g cap w' ho' ⟨hg'.os, hg'.tape, hg'.output, hg'.size, fun k hk hne => hg'.block k hk hne, ?_⟩ (.inl rfl)
      intro k j hk hj
      simp [Value.ownBlock] at hk
      subst hk
      rw [own_pre ho' rfl (by rw [Nat.add_mul]; omega), own_pre hown rfl hj, List.getElem?_append_left (by rw [hown.1]; exact hj)]
    · refine full _ cap hv (fun hb => by cases hb) ?_ (by omega)
      intro b hb j u hj
      cases hb
      exact hown.cells (g := g) (by rw [hv]; rfl) j u hj

/-- What a step leaves: all old blocks but two. -/
structure Two (w w' : World) (B : Nat) (row : Option Nat) : Prop where
  os : w'.os = w.os
  tape : w'.tape = w.tape
  output : w'.output = w.output
  size : w.heap.size ≤ w'.heap.size
  block : ∀ k, k < w.heap.size → k ≠ B → some k ≠ row → w'.heap[k]? = w.heap[k]?
theorem set_at {w : World} {g : Nat} {cur : Array Value} {T : TypeId} (h : w.heap[g]? = some (.cells cur T (0, 0))) (k : Nat) (x : Value) : (w.setCell ⟨g, k, none⟩ x).heap[g]? = some (.cells (cur.setIfInBounds k x) T (0, 0)) := by
  simp [World.setCell, Array.getElem?_modify, h]
theorem own_set {w : World} {base e sz n B k : Nat} {v : Value} {xs : List Value} (h : w.ownsRow base e sz v n xs) (hb : v.ownBlock ≠ some B) (x : Value) : (w.setCell ⟨B, k, none⟩ x).ownsRow base e sz v n xs := by
  obtain ⟨h1, h2 | ⟨g, cap, cur, rfl, hg, hh, hr⟩⟩ := h
  · exact ⟨h1, .inl h2⟩
  · refine ⟨h1, .inr ⟨g, cap, cur, rfl, hg, ?_, hr⟩⟩
    rw [Below.heap_setCell _ _ _ _ (by intro e; exact hb (by simp [Value.ownBlock, e]))]
    exact hh
theorem own_below {w w' : World} {H e sz n : Nat} {v : Value} {xs : List Value} (h : w.ownsRow H e sz v n xs) (hB : Below w.heap.size w w') : w'.ownsRow H e sz v n xs := by
  obtain ⟨h1, h2 | ⟨g, cap, cur, rfl, hg, hh, hr⟩⟩ := h
  · exact ⟨h1, .inl h2⟩
  · exact ⟨h1, .inr ⟨g, cap, cur, rfl, hg, (hB.block g (Array.getElem?_eq_some_iff.1 hh).1).trans hh, hr⟩⟩
/-- Cells, written one behind the other. -/
def putL (w : World) (b : Nat) : Nat → List Value → World
  | _, [] => w
  | o, u :: r => putL (w.setCell ⟨b, o, none⟩ u) b (o + 1) r
theorem putL_far {b k : Nat} (hk : k ≠ b) : ∀ (l : List Value) (o : Nat) (w : World), (putL w b o l).heap[k]? = w.heap[k]?
  | [], _, _ => rfl
  | u :: r, o, w => (putL_far hk r (o + 1) _).trans (Below.heap_setCell _ _ _ _ (by intro e; exact hk e))
theorem putL_size (b : Nat) : ∀ (l : List Value) (o : Nat) (w : World), (putL w b o l).heap.size = w.heap.size
  | [], _, _ => rfl
  | u :: r, o, w => (putL_size b r (o + 1) _).trans (by simp [World.setCell])
theorem putL_below {a : World} {B b : Nat} (hb : B ≤ b) : ∀ (l : List Value) (o : Nat) (w : World), Below B a w → Below B a (putL w b o l)
  | [], _, _, h => h
  | u :: r, o, w, h => putL_below hb r (o + 1) _ (h.setCell hb _)
theorem putL_at {g : Nat} {T : TypeId} : ∀ (l : List Value) (o : Nat) (w : World) (cur : Array Value), w.heap[g]? = some (.cells cur T (0, 0)) → o + l.length ≤ cur.size →
    ∃ cur', (putL w g o l).heap[g]? = some (.cells cur' T (0, 0)) ∧ cur'.size = cur.size ∧ (∀ i u, l[i]? = some u → cur'[o + i]? = some u) ∧ ∀ j, (j < o ∨ o + l.length ≤ j) → cur'[j]? = cur[j]?
  | [], o, w, cur, h, _ => ⟨cur, h, rfl, fun i u hu => by simp at hu, fun _ _ => rfl⟩
  | u :: r, o, w, cur, h, hl => by
    simp only [List.length_cons] at hl
    obtain ⟨c, a1, a2, a3, a4⟩ := putL_at r (o + 1) (w.setCell ⟨g, o, none⟩ u) _ (set_at h o u) (by simp; omega)
    refine ⟨c, a1, by simpa using a2, fun i x hx => ?_, fun j hj => ?_⟩
    · cases i with
      | zero =>
        obtain rfl : u = x := by simpa using hx
        rw [a4 _ (by omega), Nat.add_zero]
        have ho : o < cur.size := by omega
        first | (simp [ho]; done) | (rw [Array.getElem?_setIfInBounds]; simp [ho]; done)
      | succ i =>
        rw [show o + (i + 1) = o + 1 + i by omega]
        exact a3 i x (by simpa using hx)
    · simp only [List.length_cons] at hj
      rw [a4 j (by omega), Array.getElem?_setIfInBounds_ne (by omega)]
/-- A row of which one element is written anew. -/
theorem own_put {w : World} {H e sz n b c i : Nat} {xs l : List Value} (h : w.ownsRow H e sz (.slice (some ⟨b, 0, none⟩) n c) n xs) (hi : i < n) (hl : l.length = sz) :
    ∃ xs', (putL w b (i * sz) l).ownsRow H e sz (.slice (some ⟨b, 0, none⟩) n c) n xs' ∧ (∀ k u, l[k]? = some u → xs'[i * sz + k]? = some u) ∧ ∀ j, (j < i * sz ∨ i * sz + sz ≤ j) → xs'[j]? = xs[j]? := by
  obtain ⟨h1, ⟨h0, _⟩ | ⟨g, cap, cur, e1, hg, hh, hc, hm, hs, ht⟩⟩ := h
  · cases h0
  · obtain ⟨rfl, rfl⟩ : b = g ∧ c = cap := by simpa using e1
    have hb1 : i * sz + sz ≤ n * sz := by rw [← Nat.succ_mul]; exact Nat.mul_le_mul_right _ hi
    have hb2 : n * sz ≤ c * sz := Nat.mul_le_mul_right _ hc
    obtain ⟨cur', a1, a2, a3, a4⟩ := putL_at l (i * sz) w cur hh (by omega)
    refine ⟨cur'.toList.take (n * sz), ⟨?_, .inr ⟨b, c, cur', rfl, hg, a1, hc, hm, a2.trans hs, rfl⟩⟩, fun k u hu => ?_, fun j hj => ?_⟩
    · rw [List.length_take, Array.length_toList, a2, hs]; exact Nat.min_eq_left hb2
    · have hk : k < sz := by have := (List.getElem?_eq_some_iff.1 hu).1; omega
      rw [List.getElem?_take, if_pos (by omega), Array.getElem?_toList]
      exact a3 k u hu
    · rw [← ht, List.getElem?_take, List.getElem?_take]
      split
      · rw [Array.getElem?_toList, Array.getElem?_toList, a4 j (by omega)]
      · rfl

/-- The bag's lists: row n is marked as far as m n; the rows lie apart from each other and from the bag. -/
structure Lain (w : World) (H B g N cT : Nat) (vs : List Value) (m : Nat → Nat) : Prop where
  bag : w.cell? ⟨B, 6, none⟩ = some (.slice (some ⟨g, 0, none⟩) N cT)
  num : vs.length = N
  few : N ≤ 100
  nBg : B ≠ g
  lB : B < w.heap.size
  lg : g < w.heap.size
  cell : ∀ (n : Nat) (v : Value), vs[n]? = some v → w.cell? ⟨g, n, none⟩ = some v
  row : ∀ (n : Nat) (v : Value), vs[n]? = some v → ∃ a l c xs, v = .slice a l c ∧ l ≤ 1000000 ∧ w.ownsRow H 28 7 v l xs ∧ (∀ j, j < m n → j < l → ∀ k u, (mkc n j)[k]? = some u → xs[j * 7 + k]? = some u) ∧ (∀ b, v.ownBlock = some b → b ≠ B ∧ b ≠ g)
  apart : ∀ (n k : Nat) (u v : Value) (b : Nat), vs[n]? = some u → vs[k]? = some v → n ≠ k → u.ownBlock = some b → v.ownBlock ≠ some b
theorem lain_below {w w' : World} {H B g N cT : Nat} {vs : List Value} {m : Nat → Nat} (h : Lain w H B g N cT vs m) (hB : Below w.heap.size w w') : Lain w' H B g N cT vs m :=
  ⟨(hB.cell (p := ⟨B, 6, none⟩) h.lB).trans h.bag, h.num, h.few, h.nBg, Nat.lt_of_lt_of_le h.lB hB.size, Nat.lt_of_lt_of_le h.lg hB.size, fun n v hv => (hB.cell (p := ⟨g, n, none⟩) h.lg).trans (h.cell n v hv),
    fun n v hv => by obtain ⟨a, l, c, xs, h1, h2, h3, h4⟩ := h.row n v hv; exact ⟨a, l, c, xs, h1, h2, own_below h3 hB, h4⟩, h.apart⟩
theorem own_putfar {w : World} {base e sz n B : Nat} {v : Value} {xs : List Value} (h : w.ownsRow base e sz v n xs) (hb : v.ownBlock ≠ some B) : ∀ (l : List Value) (o : Nat), (putL w B o l).ownsRow base e sz v n xs := by
  intro l o
  obtain ⟨h1, h2 | ⟨g, cap, cur, rfl, hg, hh, hr⟩⟩ := h
  · exact ⟨h1, .inl h2⟩
  · refine ⟨h1, .inr ⟨g, cap, cur, rfl, hg, ?_, hr⟩⟩
    rw [putL_far (by intro e; exact hb (by simp [Value.ownBlock, e]))]
    exact hh
/-- One mark more. -/
theorem lain_mark {w : World} {H B g N cT : Nat} {vs : List Value} {m : Nat → Nat} (h : Lain w H B g N cT vs m) {n l c b : Nat} (hv : vs[n]? = some (.slice (some ⟨b, 0, none⟩) l c)) (hi : m n < l) :
    Lain (putL w b (m n * 7) (mkc n (m n))) H B g N cT vs (fun k => if k = n then m n + 1 else m k) := by
  obtain ⟨a0, l0, c0, xs0, e0, -, -, -, hbb⟩ := h.row n _ hv
  obtain ⟨hbB, hbg⟩ := hbb b rfl
  have hset : ∀ k o, k ≠ b → (putL w b (m n * 7) (mkc n (m n))).cell? ⟨k, o, none⟩ = w.cell? ⟨k, o, none⟩ := fun k o hk => World.cell?_of_block (putL_far hk _ _ _)
  refine ⟨(hset B 6 (Ne.symm hbB)).trans h.bag, h.num, h.few, h.nBg, by rw [putL_size]; exact h.lB, by rw [putL_size]; exact h.lg, fun k v hk => (hset g k (Ne.symm hbg)).trans (h.cell k v hk), ?_, h.apart⟩
  intro k v hk
  obtain ⟨a, l', c', xs, h1, h2, h3, h4, h5⟩ := h.row k v hk
  by_cases hkn : k = n
  · subst hkn
    rw [hv] at hk
    obtain rfl := Option.some.inj hk
    obtain ⟨rfl, rfl, rfl⟩ : a = some ⟨b, 0, none⟩ ∧ l' = l ∧ c' = c := by simpa [eq_comm] using h1
    obtain ⟨xs', q1, q2, q3⟩ := own_put h3 hi (mkc_len k (m k))
    refine ⟨_, _, _, xs', rfl, h2, q1, ?_, h5⟩
    intro j hj hjl p u hu
    simp at hj
    have hp : p < 7 := by have := (List.getElem?_eq_some_iff.1 hu).1; rw [mkc_len] at this; exact this
    by_cases hjm : j = m k
    · subst hjm; exact q2 p u hu
    · rw [q3 _ (by omega)]
      exact h4 j (by omega) hjl p u hu
  · refine ⟨a, l', c', xs, h1, h2, own_putfar h3 (h.apart n k _ v b hv hk (Ne.symm hkn) rfl) _ _, ?_, h5⟩
    simpa [hkn] using h4

/-- What is kept all along. -/
structure Kp (w wr : World) (H B : Nat) : Prop where
  below : Below H w wr
  bag : wr.heap[B]? = w.heap[B]?
theorem kp_below {w a b : World} {H B : Nat} (h : Kp w a H B) (hB : Below a.heap.size a b) (hH : H ≤ a.heap.size) (hb : B < a.heap.size) : Kp w b H B :=
  ⟨h.below.trans (hB.mono hH), (hB.block B hb).trans h.bag⟩
theorem kp_put {w a : World} {H B b : Nat} (h : Kp w a H B) (hb : H ≤ b) (hne : B ≠ b) (o : Nat) (l : List Value) : Kp w (putL a b o l) H B :=
  ⟨putL_below hb l o a h.below, (putL_far hne _ _ _).trans h.bag⟩
theorem kp_drew {w a : World} {H B : Nat} (h : Kp w a H B) : Kp w a.drew H B := ⟨h.below.drew, h.bag⟩
/-- Of row n, that has a place i: where it lies. -/
theorem lain_at {w : World} {H B g N cT : Nat} {vs : List Value} {m : Nat → Nat} (h : Lain w H B g N cT vs m) {n : Nat} (hn : n < N) : ∃ a l c, vs[n]? = some (.slice a l c) ∧ w.cell? ⟨g, n, none⟩ = some (.slice a l c) ∧ l ≤ 1000000 ∧ ∀ i, i < l → ∃ b, a = some ⟨b, 0, none⟩ ∧ H ≤ b ∧ b ≠ B ∧ b ≠ g ∧ b < w.heap.size ∧ l ≤ c ∧ (∀ k, k < 7 → ∃ u, w.cell? ⟨b, i * 7 + k, none⟩ = some u) ∧ ∀ o, w.frozen? ⟨b, o, none⟩ = false := by
  have hl : n < vs.length := by rw [h.num]; exact hn
  have hv := List.getElem?_eq_getElem hl
  generalize vs[n] = v at hv
  obtain ⟨a, l, c, xs, rfl, h2, h3, h4, h5⟩ := h.row n v hv
  refine ⟨a, l, c, hv, h.cell n _ hv, h2, fun i hi => ?_⟩
  obtain ⟨hx, ⟨h0, h1⟩ | ⟨b, cap, cur, h0, hg, hh, hc, _, hs, ht⟩⟩ := h3
  · omega
  · obtain ⟨rfl, rfl⟩ : a = some ⟨b, 0, none⟩ ∧ c = cap := by simpa using h0
    refine ⟨b, rfl, hg, (h5 b rfl).1, (h5 b rfl).2, (Array.getElem?_eq_some_iff.1 hh).1, hc, fun k hk => ⟨cur[i * 7 + k]'(by omega), ?_⟩, fun o => (block_cells hh).2 o⟩
    rw [(block_cells hh).1]
    exact Array.getElem?_eq_getElem _
/-- The rows before row n are marked, row n as far as i, those behind not yet. -/
def Upto (wr : World) (H B g N cT : Nat) (vs : List Value) (n i : Nat) : Prop :=
  ∃ m : Nat → Nat, Lain wr H B g N cT vs m ∧ (∀ k a l c, k < n → vs[k]? = some (.slice a l c) → l ≤ m k) ∧ m n = i ∧ ∀ k, n < k → m k = 0
theorem upto_below {w w' : World} {H B g N cT : Nat} {vs : List Value} {n i : Nat} (h : Upto w H B g N cT vs n i) (hB : Below w.heap.size w w') : Upto w' H B g N cT vs n i := by
  obtain ⟨m, h1, h2⟩ := h
  exact ⟨m, lain_below h1 hB, h2⟩
theorem upto_drew {w : World} {H B g N cT : Nat} {vs : List Value} {n i : Nat} (h : Upto w H B g N cT vs n i) : Upto w.drew H B g N cT vs n i := upto_below h (Below.refl _ _).drew
theorem upto_mark {w : World} {H B g N cT : Nat} {vs : List Value} {n i : Nat} (h : Upto w H B g N cT vs n i) {l c b : Nat} (hv : vs[n]? = some (.slice (some ⟨b, 0, none⟩) l c)) (hi : i < l) :
    Upto (putL w b (i * 7) (mkc n i)) H B g N cT vs n (i + 1) := by
  obtain ⟨m, h1, h2, rfl, h4⟩ := h
  refine ⟨_, lain_mark h1 hv hi, ?_, by simp, ?_⟩
  · intro k a l c hk hvk
    rw [if_neg (by omega)]
    exact h2 k a l c hk hvk
  · intro k hk
    rw [if_neg (by omega)]
    exact h4 k hk
theorem upto_next {w : World} {H B g N cT : Nat} {vs : List Value} {n : Nat} {a : Option Addr} {l c : Nat} (h : Upto w H B g N cT vs n l) (hv : vs[n]? = some (.slice a l c)) : Upto w H B g N cT vs (n + 1) 0 := by
  obtain ⟨m, h1, h2, h3, h4⟩ := h
  refine ⟨m, h1, ?_, h4 _ (by omega), fun k hk => h4 k (by omega)⟩
  intro k a' l' c' hk hvk
  by_cases hkn : k = n
  · subst hkn
    rw [hv] at hvk
    obtain ⟨-, rfl, -⟩ : a = a' ∧ l = l' ∧ c = c' := by simpa using hvk
    omega
  · exact h2 k a' l' c' (by omega) hvk

/-- A block is handed to an owner. -/
def upd (ow : Nat → Nat) (g τ : Nat) : Nat → Nat := fun b => if b = g then τ else ow b
theorem upd_self (ow : Nat → Nat) (g τ : Nat) : upd ow g τ g = τ := by simp [upd]
theorem upd_keep {ow : Nat → Nat} {g τ b s x : Nat} (h : ow g = τ ∨ s ≤ g) (hb : b < s) (hx : ow b = x) : upd ow g τ b = x := by
  unfold upd
  by_cases e : b = g
  · rw [if_pos e]
    rcases h with h | h
    · rw [← h, ← e, hx]
    · omega
  · rw [if_neg e]; exact hx
theorem Stays.keep {w w' : World} {blk : Option Nat} {n b j : Nat} {u : Value} (h : Stays w w' blk n) (hc : w.cell? ⟨b, j, none⟩ = some u) (hk : some b ≠ blk ∨ j < n) : w'.cell? ⟨b, j, none⟩ = some u := by
  by_cases e : some b = blk
  · exact (h.cell b j e (hk.resolve_left (fun h => h e))).trans hc
  · exact (World.cell?_of_block (h.block b (World.block_lt_of_cell? w _ hc) e)).trans hc
theorem stays_below {w w' : World} (h : Below w.heap.size w w') : Stays w w' none 0 := ⟨h.os, h.tape, h.output, h.size, fun k hk _ => h.block k hk, fun k j e => by cases e⟩
theorem own_stay {w w' : World} {H e sz n m : Nat} {v : Value} {xs : List Value} {blk : Option Nat} (h : w.ownsRow H e sz v n xs) (hs : Stays w w' blk m) (hb : ∀ b, v.ownBlock = some b → blk ≠ some b) : w'.ownsRow H e sz v n xs := by
  obtain ⟨h1, h2 | ⟨g, cap, cur, rfl, hg, hh, hr⟩⟩ := h
  · exact ⟨h1, .inl h2⟩
  · exact ⟨h1, .inr ⟨g, cap, cur, rfl, hg, (hs.block g (Array.getElem?_eq_some_iff.1 hh).1 (fun e => hb g rfl e.symm)).trans hh, hr⟩⟩
theorem own_in {w : World} {H e sz n : Nat} {v : Value} {xs : List Value} (h : w.ownsRow H e sz v n xs) {b : Nat} (hb : v.ownBlock = some b) : H ≤ b ∧ b < w.heap.size := by
  obtain ⟨h1, ⟨rfl, _⟩ | ⟨g, cap, cur, rfl, hg, hh, hr⟩⟩ := h
  · simp [Value.ownBlock] at hb
  · obtain rfl : g = b := by simpa [Value.ownBlock] using hb
    exact ⟨hg, (Array.getElem?_eq_some_iff.1 hh).1⟩
theorem kp_stay {w a a' : World} {H B m : Nat} {blk : Option Nat} (h : Kp w a H B) (hs : Stays a a' blk m) (hH : H ≤ a.heap.size) (hBl : B < a.heap.size) (hb : ∀ b, blk = some b → H ≤ b ∧ b ≠ B) : Kp w a' H B := by
  refine ⟨⟨hs.os.trans h.below.os, hs.tape.trans h.below.tape, hs.output.trans h.below.output, Nat.le_trans h.below.size hs.size, fun k hk => ?_⟩, ?_⟩
  · refine (hs.block k (by omega) ?_).trans (h.below.block k hk)
    intro e
    have := (hb k e.symm).1
    omega
  · refine (hs.block B hBl ?_).trans h.bag
    intro e
    exact (hb B e.symm).2 rfl
/-- The bag's lists, all marked, and what has been gone on with so far. -/
structure Gro (w : World) (ow : Nat → Nat) (H B g N cT : Nat) (vs : List Value) (q : Nat) (os ms : List Value) : Prop where
  bag : w.cell? ⟨B, 6, none⟩ = some (.slice (some ⟨g, 0, none⟩) N cT)
  tB : ow B = 0
  tg : ow g = 1
  lg : g < w.heap.size
  num : vs.length = N
  few : N ≤ 100
  cell : ∀ (k : Nat) (v : Value), vs[k]? = some v → w.cell? ⟨g, k, none⟩ = some v
  row : ∀ (k : Nat) (v : Value), vs[k]? = some v → ∃ a l c, v = .slice a l c ∧ l ≤ 1000000 ∧ (∀ b, v.ownBlock = some b → ow b = 10 + k ∧ b < w.heap.size) ∧ (∀ j, j < l → ∃ b, a = some ⟨b, 0, none⟩ ∧ l ≤ c ∧ MkAt w b k j)
  own : ∀ (k : Nat) (v : Value), q ≤ k → vs[k]? = some v → ∃ a l c xs, v = .slice a l c ∧ w.ownsRow H 28 7 v l xs ∧ (∀ j, j < l → ∀ p u, (mkc k j)[p]? = some u → xs[j * 7 + p]? = some u)
  one : ∀ (k : Nat) (v : Value), os[k]? = some v → ∃ a l c, vs[k]? = some (.slice a l c) ∧ ∃ b c', v = .slice (some ⟨b, 0, none⟩) (l + 1) c' ∧ l + 1 ≤ c' ∧ ow b = 10 + k ∧ MkAt w b k l
  more : ∀ (k : Nat) (v : Value), ms[k]? = some v → ∃ a l c, vs[k]? = some (.slice a l c) ∧ ∃ b c', v = .slice (some ⟨b, 0, none⟩) (l + 70) c' ∧ l + 70 ≤ c' ∧ ow b = 10 + k ∧ ∀ j, j < l + 70 → MkAt w b k j
/-- Who may be gone on with, so that all that is known stays. -/
def May (vs os ms : List Value) (q len τ : Nat) : Prop :=
  τ = 2 ∨ τ = 3 ∨ ∃ n, τ = 10 + n ∧ n < q ∧ ms.length ≤ n ∧ ∀ a l c, vs[n]? = some (.slice a l c) → l * 7 ≤ len ∧ (n < os.length → (l + 1) * 7 ≤ len)
theorem mk_lt {k j p l len : Nat} {u : Value} (hu : (mkc k j)[p]? = some u) (hj : j < l) (hl : l * 7 ≤ len) : j * 7 + p < len := by
  have := (List.getElem?_eq_some_iff.1 hu).1
  rw [mkc_len] at this
  omega
theorem mkAt_lt {w : World} {b n i : Nat} (h : MkAt w b n i) : b < w.heap.size := World.block_lt_of_cell? w _ (h 0 _ rfl)
theorem Gro.keep {w w' : World} {ow : Nat → Nat} {H B g N cT q q' len τ : Nat} {vs os ms : List Value} {blk : Option Nat} (h : Gro w ow H B g N cT vs q os ms) (hs : Stays w w' blk len) (hb : ∀ b, blk = some b → ow b = τ) (hq : q ≤ q') (hm : May vs os ms q' len τ) : Gro w' ow H B g N cT vs q' os ms := by
  have key : ∀ b j u, w.cell? ⟨b, j, none⟩ = some u → (ow b ≠ τ ∨ j < len) → w'.cell? ⟨b, j, none⟩ = some u := by
    intro b j u hc hk
    refine hs.keep hc ?_
    rcases hk with hk | hk
    · exact .inl (fun e => hk (hb b e.symm))
    · exact .inr hk
  have hlt : ∀ k v, vs[k]? = some v → ∀ a l c, v = .slice a l c → ∀ j, j < l → (10 + k ≠ τ ∨ l * 7 ≤ len) := by
    intro k v hv a l c e j hj
    by_cases ht : 10 + k = τ
    · right
      rcases hm with h2 | h2 | ⟨n, h1, h2, h3, h4⟩
      · omega
      · omega
      · obtain rfl : n = k := by omega
        subst e
        exact (h4 a l c hv).1
    · exact .inl ht
  have ht0 : ow B ≠ τ := by rw [h.tB]; rcases hm with h2 | h2 | ⟨n, h1, _⟩ <;> omega
  have ht1 : ow g ≠ τ := by rw [h.tg]; rcases hm with h2 | h2 | ⟨n, h1, _⟩ <;> omega
  refine ⟨key _ _ _ h.bag (.inl ht0), h.tB, h.tg, Nat.lt_of_lt_of_le h.lg hs.size, h.num, h.few, fun k v hv => key _ _ _ (h.cell k v hv) (.inl ht1), ?_, ?_, ?_, ?_⟩
  · intro k v hv
    obtain ⟨a, l, c, e, h1, h2, h3⟩ := h.row k v hv
    refine ⟨a, l, c, e, h1, fun b hb => ⟨(h2 b hb).1, Nat.lt_of_lt_of_le (h2 b hb).2 hs.size⟩, fun j hj => ?_⟩
    obtain ⟨b, e2, h4, h5⟩ := h3 j hj
    refine ⟨b, e2, h4, fun p u hu => key _ _ _ (h5 p u hu) ?_⟩
    have hob : ow b = 10 + k := (h2 b (by subst e; subst e2; rfl)).1
    rw [hob]
    exact (hlt k v hv a l c e j hj).imp id fun hl => mk_lt hu hj hl
  · intro k v hk hv
    obtain ⟨a, l, c, xs, e, h1, h2⟩ := h.own k v (by omega) hv
    obtain ⟨_, _, _, _, _, h5, _⟩ := h.row k v hv
    refine ⟨a, l, c, xs, e, own_stay h1 hs ?_, h2⟩
    intro b hob e2
    have q1 := (h5 b hob).1
    have q2 := hb b e2
    rcases hm with h2 | h2 | ⟨n, h1, h2, _⟩ <;> omega
  · intro k v hv
    obtain ⟨a, l, c, e, b, c', e2, h1, h2, h3⟩ := h.one k v hv
    refine ⟨a, l, c, e, b, c', e2, h1, h2, fun p u hu => key _ _ _ (h3 p u hu) ?_⟩
    rw [h2]
    by_cases ht : 10 + k = τ
    · right
      rcases hm with h2 | h2 | ⟨n, h1, h2, h3, h4⟩
      · omega
      · omega
      · obtain rfl : n = k := by omega
        exact mk_lt hu (Nat.lt_succ_self _) ((h4 a l c e).2 (List.getElem?_eq_some_iff.1 hv).1)
    · exact .inl ht
  · intro k v hv
    obtain ⟨a, l, c, e, b, c', e2, h1, h2, h3⟩ := h.more k v hv
    refine ⟨a, l, c, e, b, c', e2, h1, h2, fun j hj p u hu => key _ _ _ (h3 j hj p u hu) ?_⟩
    rw [h2]
    left
    have hk := (List.getElem?_eq_some_iff.1 hv).1
    rcases hm with h2 | h2 | ⟨n, h1, h2, h3, h4⟩ <;> omega
theorem Gro.below {w w' : World} {ow : Nat → Nat} {H B g N cT q : Nat} {vs os ms : List Value} (h : Gro w ow H B g N cT vs q os ms) (hB : Below w.heap.size w w') : Gro w' ow H B g N cT vs q os ms :=
  h.keep (stays_below hB) (τ := 2) (fun b e => by cases e) (Nat.le_refl _) (.inl rfl)
theorem Gro.tag {w : World} {ow : Nat → Nat} {H B g N cT q : Nat} {vs os ms : List Value} (h : Gro w ow H B g N cT vs q os ms) {g2 τ : Nat} (hg : ow g2 = τ ∨ w.heap.size ≤ g2) : Gro w (upd ow g2 τ) H B g N cT vs q os ms := by
  refine ⟨h.bag, upd_keep hg (World.block_lt_of_cell? w _ h.bag) h.tB, upd_keep hg h.lg h.tg, h.lg, h.num, h.few, h.cell, ?_, h.own, ?_, ?_⟩
  · intro k v hv
    obtain ⟨a, l, c, e, h1, h2, h3⟩ := h.row k v hv
    exact ⟨a, l, c, e, h1, fun b hb => ⟨upd_keep hg (h2 b hb).2 (h2 b hb).1, (h2 b hb).2⟩, h3⟩
  · intro k v hv
    obtain ⟨a, l, c, e, b, c', e2, h1, h2, h3⟩ := h.one k v hv
    exact ⟨a, l, c, e, b, c', e2, h1, upd_keep hg (mkAt_lt h3) h2, h3⟩
  · intro k v hv
    obtain ⟨a, l, c, e, b, c', e2, h1, h2, h3⟩ := h.more k v hv
    exact ⟨a, l, c, e, b, c', e2, h1, upd_keep hg (mkAt_lt (h3 0 (by omega))) h2, h3⟩
theorem gro_addOne {w : World} {ow : Nat → Nat} {H B g N cT q l c' b : Nat} {vs os ms : List Value} {a : Option Addr} {c : Nat} (h : Gro w ow H B g N cT vs q os ms) (hv : vs[os.length]? = some (.slice a l c)) (hc : l + 1 ≤ c') (ho : ow b = 10 + os.length) (hm : MkAt w b os.length l) :
    Gro w ow H B g N cT vs q (os ++ [.slice (some ⟨b, 0, none⟩) (l + 1) c']) ms := by
  refine ⟨h.bag, h.tB, h.tg, h.lg, h.num, h.few, h.cell, h.row, h.own, ?_, h.more⟩
  intro k v hk
  by_cases e : k < os.length
  · rw [List.getElem?_append_left e] at hk
    exact h.one k v hk
  · have hl := (List.getElem?_eq_some_iff.1 hk).1
    simp at hl
    obtain rfl : k = os.length := by omega
    simp at hk
    exact ⟨a, l, c, hv, b, c', hk.symm, hc, ho, hm⟩
theorem gro_addMore {w : World} {ow : Nat → Nat} {H B g N cT q l c' b : Nat} {vs os ms : List Value} {a : Option Addr} {c : Nat} (h : Gro w ow H B g N cT vs q os ms) (hv : vs[ms.length]? = some (.slice a l c)) (hc : l + 70 ≤ c') (ho : ow b = 10 + ms.length) (hm : ∀ j, j < l + 70 → MkAt w b ms.length j) :
    Gro w ow H B g N cT vs q os (ms ++ [.slice (some ⟨b, 0, none⟩) (l + 70) c']) := by
  refine ⟨h.bag, h.tB, h.tg, h.lg, h.num, h.few, h.cell, h.row, h.own, h.one, ?_⟩
  intro k v hk
  by_cases e : k < ms.length
  · rw [List.getElem?_append_left e] at hk
    exact h.more k v hk
  · have hl := (List.getElem?_eq_some_iff.1 hk).1
    simp at hl
    obtain rfl : k = ms.length := by omega
    simp at hk
    exact ⟨a, l, c, hv, b, c', hk.symm, hc, ho, hm⟩
/-- A row and its owner. -/
structure Row (w : World) (ow : Nat → Nat) (H e sz τ : Nat) (v : Value) (n : Nat) (xs : List Value) : Prop where
  own : w.ownsRow H e sz v n xs
  tag : ∀ b, v.ownBlock = some b → ow b = τ
theorem Row.keep {w w' : World} {ow : Nat → Nat} {H e sz τ σ n m : Nat} {v : Value} {xs : List Value} {blk : Option Nat} (h : Row w ow H e sz τ v n xs) (hs : Stays w w' blk m) (hb : ∀ b, blk = some b → ow b = σ) (hne : τ ≠ σ) : Row w' ow H e sz τ v n xs :=
  ⟨own_stay h.own hs (fun b h1 h2 => hne ((h.tag b h1).symm.trans (hb b h2))), h.tag⟩
theorem Row.below {w w' : World} {ow : Nat → Nat} {H e sz τ n : Nat} {v : Value} {xs : List Value} (h : Row w ow H e sz τ v n xs) (hB : Below w.heap.size w w') : Row w' ow H e sz τ v n xs := ⟨own_below h.own hB, h.tag⟩
theorem Row.upd {w : World} {ow : Nat → Nat} {H e sz τ n g2 σ : Nat} {v : Value} {xs : List Value} (h : Row w ow H e sz τ v n xs) (hg : ow g2 = σ ∨ w.heap.size ≤ g2) : Row w (upd ow g2 σ) H e sz τ v n xs :=
  ⟨h.own, fun b hb => upd_keep hg (own_in h.own hb).2 (h.tag b hb)⟩
theorem own_mk {w : World} {H e b c l n j : Nat} {xs : List Value} (h : w.ownsRow H e 7 (.slice (some ⟨b, 0, none⟩) l c) l xs) (hj : j < l) (hx : ∀ p u, (mkc n j)[p]? = some u → xs[j * 7 + p]? = some u) : MkAt w b n j := by
  intro p u hu
  have hp := (List.getElem?_eq_some_iff.1 hu).1
  rw [mkc_len] at hp
  rw [own_pre h rfl (by have := Nat.mul_le_mul_right 7 hj; rw [Nat.succ_mul] at this; omega)]
  exact hx p u hu
/-- The lists as they lie when all are marked. -/
theorem gro_start {w : World} {H B g N cT : Nat} {vs : List Value} (h : Upto w H B g N cT vs N 0) : ∃ ow, Gro w ow H B g N cT vs 0 [] [] := by
  obtain ⟨m, hL, hm, _, _⟩ := h
  refine ⟨fun b => if b = B then 0 else if b = g then 1 else 10 + vs.findIdx (fun v => v.ownBlock == some b), hL.bag, by simp, ?_, hL.lg, hL.num, hL.few, hL.cell, ?_, ?_, ?_, ?_⟩
  · simp [Ne.symm hL.nBg]
  · intro k v hv
    obtain ⟨a, l, c, xs, e, h1, h2, h3, h4⟩ := hL.row k v hv
    have hk : k < N := by rw [← hL.num]; exact (List.getElem?_eq_some_iff.1 hv).1
    refine ⟨a, l, c, e, h1, fun b hb => ⟨?_, (own_in h2 hb).2⟩, fun j hj => ?_⟩
    · obtain ⟨q1, q2⟩ := h4 b hb
      rw [if_neg q1, if_neg q2]
      congr 1
      obtain ⟨hkl, hke⟩ := List.getElem?_eq_some_iff.1 hv
      rw [List.findIdx_eq hkl]
      refine ⟨by rw [hke, hb]; simp, fun j hj => ?_⟩
      have hjl : j < vs.length := by omega
      have := hL.apart k j v vs[j] b hv (List.getElem?_eq_getElem hjl) (by omega) hb
      simpa using this
    · have hlm := hm k a l c hk (by rw [hv, e])
      obtain ⟨b, cap, e2, hc, _, hcell⟩ := own_cells h2 (by omega)
      rw [e] at e2
      obtain ⟨rfl, rfl⟩ : a = some ⟨b, 0, none⟩ ∧ c = cap := by simpa using e2
      exact ⟨b, rfl, hc, own_mk (by rw [e] at h2; exact h2) hj (h3 j (by omega) hj)⟩
  · intro k v _ hv
    obtain ⟨a, l, c, xs, e, h1, h2, h3, h4⟩ := hL.row k v hv
    have hk : k < N := by rw [← hL.num]; exact (List.getElem?_eq_some_iff.1 hv).1
    have hlm := hm k a l c hk (by rw [hv, e])
    exact ⟨a, l, c, xs, e, h2, fun j hj => h3 j (by omega) hj⟩
  · intro k v hv; simp at hv
  · intro k v hv; simp at hv
/-- One more element, or list: all that is known stays. -/
theorem gro_step {w wr W w2 : World} {ow : Nat → Nat} {H B g N cT q i τ e sz g2 cap : Nat} {vs os ms ys new : List Value} {v : Value} (HG : Gro wr ow H B g N cT vs q os ms) (HK : Kp w wr H B) (R : Row wr ow H e sz τ v i ys) (hW : Below wr.heap.size wr W) (hst : Stays W w2 v.ownBlock (i * sz))
    (hown2 : w2.ownsRow H e sz (.slice (some ⟨g2, 0, none⟩) (i + 1) cap) (i + 1) (ys ++ new)) (hloc : v.ownBlock = some g2 ∨ (W.heap.size ≤ g2 ∧ g2 < w2.heap.size)) (hm : May vs os ms q (i * sz) τ) (hH : H ≤ wr.heap.size) :
    Gro w2 (upd ow g2 τ) H B g N cT vs q os ms ∧ Kp w w2 H B ∧ Row w2 (upd ow g2 τ) H e sz τ (.slice (some ⟨g2, 0, none⟩) (i + 1) cap) (i + 1) (ys ++ new) ∧ H ≤ w2.heap.size ∧
      ∀ (e' sz' σ k : Nat) (v' : Value) (zs : List Value), σ ≠ τ → Row wr ow H e' sz' σ v' k zs → Row w2 (upd ow g2 τ) H e' sz' σ v' k zs := by
  have G1 := HG.below hW
  have R1 := R.below hW
  have hg : ow g2 = τ ∨ W.heap.size ≤ g2 := hloc.imp (fun h => R.tag _ h) (fun h => h.1)
  have hsW := hW.size
  have hBl : B < wr.heap.size := World.block_lt_of_cell? wr _ HG.bag
  have ht0 : τ ≠ 0 := by rcases hm with h | h | ⟨n, h, _⟩ <;> omega
  have tags : ∀ b, v.ownBlock = some b → upd ow g2 τ b = τ := fun b hb => upd_keep hg (own_in R1.own hb).2 (R.tag b hb)
  refine ⟨(G1.tag hg).keep hst tags (Nat.le_refl _) hm, ?_, ⟨hown2, ?_⟩, ?_, ?_⟩
  · refine kp_stay (kp_below HK hW hH hBl) hst (by omega) (by omega) (fun b hb => ⟨(own_in R1.own hb).1, ?_⟩)
    rintro rfl
    have := R.tag b hb
    rw [HG.tB] at this
    omega
  · intro b hb
    obtain rfl : g2 = b := by simpa [Value.ownBlock] using hb
    exact upd_self _ _ _
  · have := hst.size; omega
  · intro e' sz' σ k v' zs hne hR
    exact ((hR.below hW).upd hg).keep hst tags hne
theorem below_alloc (w : World) (o : Obj) : Below w.heap.size w (w.alloc o) := (Below.refl _ _).alloc (Nat.le_refl _) _
/-- A cell of a row of lists. -/
theorem row_cell {w : World} {ow : Nat → Nat} {H e τ n b c : Nat} {xs : List Value} {x : Value} {j : Nat} (R : Row w ow H e 1 τ (.slice (some ⟨b, 0, none⟩) n c) n xs) (hj : xs[j]? = some x) : w.cell? ⟨b, j, none⟩ = some x ∧ n ≤ c ∧ b < w.heap.size := by
  have hl := (List.getElem?_eq_some_iff.1 hj).1
  have hn : xs.length = n := by have := R.own.1; omega
  obtain ⟨b', c', e1, h1, _, h2⟩ := own_cells R.own (by omega)
  obtain ⟨rfl, rfl⟩ : b = b' ∧ c = c' := by simpa using e1
  have h3 := (h2 j (by omega)).trans hj
  exact ⟨h3, h1, World.block_lt_of_cell? w _ h3⟩
theorem own_form {w : World} {H e sz n : Nat} {v : Value} {xs : List Value} (h : w.ownsRow H e sz v n xs) (hn : 0 < n) : ∃ b c, v = .slice (some ⟨b, 0, none⟩) n c ∧ n ≤ c ∧ ∀ j, j < n * sz → w.cell? ⟨b, j, none⟩ = xs[j]? := by
  obtain ⟨b, c, e1, h1, _, h2⟩ := own_cells h hn
  exact ⟨b, c, e1, h1, fun j hj => h2 j (by omega)⟩
theorem own_cap {w : World} {H e sz n b c : Nat} {xs : List Value} (h : w.ownsRow H e sz (.slice (some ⟨b, 0, none⟩) n c) n xs) (hn : 0 < n) : n ≤ c := by
  obtain ⟨b', c', e1, h1, _⟩ := own_form h hn
  obtain ⟨-, rfl⟩ : b = b' ∧ c = c' := by simpa using e1
  exact h1
/-- The marks of a row and one more. -/
theorem marks_snoc {n i : Nat} {xs : List Value} (hl : xs.length = i * 7) (h : ∀ j, j < i → ∀ p u, (mkc n j)[p]? = some u → xs[j * 7 + p]? = some u) : ∀ j, j < i + 1 → ∀ p u, (mkc n j)[p]? = some u → (xs ++ mkc n i)[j * 7 + p]? = some u := by
  intro j hj p u hu
  have hp := (List.getElem?_eq_some_iff.1 hu).1
  rw [mkc_len] at hp
  by_cases hji : j < i
  · rw [List.getElem?_append_left (by rw [hl]; omega)]
    exact h j hji p u hu
  · obtain rfl : j = i := by omega
    rw [List.getElem?_append_right (by rw [hl]; omega), show j * 7 + p - xs.length = p by rw [hl]; omega]
    exact hu
end Go.Proofs.YtaaokecdmbmgbaaGreatDoor.Cq
