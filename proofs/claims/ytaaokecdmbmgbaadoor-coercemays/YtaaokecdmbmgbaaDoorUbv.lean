/- Lists of nodes of coercions with marks behind them: WideCos, SpareCos. Package coerce: lay of the casts that works asks for. Package coerce: lay of two function types. Package coerce: Of at the two casts of works; works. works: two casts, one behind the other, as a text. A list of nodes of coercions that is handed in, opened. -/
import Derived.Test.YtaaokecdmbmgbaaDoorUav
import Derived.Test.YtaaokecdmbmgbaaDoorUba
import Derived.StillTailTactics
import Derived.Test.YtaaokecdmbmgbaaDoorUat
import Derived.Deep.Slices
import Derived.ChangeArms
import Derived.SizedLaws
import Derived.RowKit
import Derived.OpenShut
namespace Go.Proofs.YtaaokecdmbmgbaaDoor
open Go.RowKit Cc
set_option maxRecDepth 100000
set_option linter.unusedSimpArgs false
set_option linter.unusedVariables false
set_option maxHeartbeats 400000 in
theorem num_any (n i : Int) (hn : 0 ≤ n ∧ n ≤ 100) (hi : 0 ≤ i ∧ i ≤ 4611686018427387904) (w : World) :
    Calls Tryd.prog 37 #[.int .i64 n, .int .i64 i] w fun e w' => e = .returned (.int .i64 (1048576 * n + i + 1)) ∧ w' = w := by
  obtain ⟨h1, h2⟩ := hn
  obtain ⟨h3, h4⟩ := hi
  go_enter Tryd.func37, Tryd.ntmps37
  go_wp2
  go_ret
  exact ⟨rfl, rfl⟩
namespace Cc
/-- A mark. -/
def mark (n i : Nat) : N := ⟨0, 0, false, 0, 1048576 * (n : Int) + (i : Int) + 1, 0, 0⟩
/-- What WideCos lays at a place. -/
def wdN (l : List N) (i : Nat) : N := (l[i]?).getD (mark 9 i)
theorem wdN_in {l : List N} {i : Nat} {x : N} (h : l[i]? = some x) : wdN l i = x := by unfold wdN; rw [h]; rfl
theorem wdN_out {l : List N} {i : Nat} (h : l.length ≤ i) : wdN l i = mark 9 i := by unfold wdN; rw [List.getElem?_eq_none h]; rfl
theorem set_facts {w : World} {g : Nat} {cur : Array Value} {T : TypeId} (h : w.heap[g]? = some (.cells cur T (0, 0))) {k : Nat} (hk : k < cur.size) (x : Value) : ∃ cur', (w.setCell ⟨g, k, none⟩ x).heap[g]? = some (.cells cur' T (0, 0)) ∧ cur'.size = cur.size ∧ cur'[k]? = some x ∧ ∀ j, j ≠ k → cur'[j]? = cur[j]? := by
  refine ⟨cur.setIfInBounds k x, by simp [World.setCell, Array.getElem?_modify, h], by simp, by simp [hk], fun j hj => by rw [Array.getElem?_setIfInBounds_ne (Ne.symm hj)]⟩
/-- Seven cells, one behind the other. -/
def put7 (w : World) (g o : Nat) (x : N) : World :=
  ((((((w.setCell ⟨g, o, none⟩ (.int .i8 x.op)).setCell ⟨g, o + 1, none⟩ (.int .i64 x.proj)).setCell ⟨g, o + 2, none⟩ (.bool x.inj)).setCell ⟨g, o + 3, none⟩ (.int .u8 x.head)).setCell ⟨g, o + 4, none⟩ (.int .i64 x.label)).setCell ⟨g, o + 5, none⟩ (.int .u8 x.frm)).setCell ⟨g, o + 6, none⟩ (.int .u8 x.tto)
theorem put7_facts {w : World} {g : Nat} {cur : Array Value} {T : TypeId} (h : w.heap[g]? = some (.cells cur T (0, 0))) {o : Nat} (ho : o + 7 ≤ cur.size) (x : N) :
    ∃ cur', (put7 w g o x).heap[g]? = some (.cells cur' T (0, 0)) ∧ cur'.size = cur.size ∧ (∀ i u, (ncell x)[i]? = some u → cur'[o + i]? = some u) ∧ ∀ j, (j < o ∨ o + 7 ≤ j) → cur'[j]? = cur[j]? := by
  obtain ⟨c1, a1, b1, e1, f1⟩ := set_facts h (k := o) (by omega) (.int .i8 x.op)
  obtain ⟨c2, a2, b2, e2, f2⟩ := set_facts a1 (k := o + 1) (by omega) (.int .i64 x.proj)
  obtain ⟨c3, a3, b3, e3, f3⟩ := set_facts a2 (k := o + 2) (by omega) (.bool x.inj)
  obtain ⟨c4, a4, b4, e4, f4⟩ := set_facts a3 (k := o + 3) (by omega) (.int .u8 x.head)
  obtain ⟨c5, a5, b5, e5, f5⟩ := set_facts a4 (k := o + 4) (by omega) (.int .i64 x.label)
  obtain ⟨c6, a6, b6, e6, f6⟩ := set_facts a5 (k := o + 5) (by omega) (.int .u8 x.frm)
  obtain ⟨c7, a7, b7, e7, f7⟩ := set_facts a6 (k := o + 6) (by omega) (.int .u8 x.tto)
  refine ⟨c7, a7, by omega, fun i u hu => ?_, fun j hj => ?_⟩
  · have hi : i < 7 := by have := (List.getElem?_eq_some_iff.1 hu).1; simpa [ncell] using this
    obtain rfl | rfl | rfl | rfl | rfl | rfl | rfl : i = 0 ∨ i = 1 ∨ i = 2 ∨ i = 3 ∨ i = 4 ∨ i = 5 ∨ i = 6 := by omega
    · rw [f7 _ (by omega), f6 _ (by omega), f5 _ (by omega), f4 _ (by omega), f3 _ (by omega), f2 _ (by omega)]; rw [Nat.add_zero, e1]; exact hu
    · rw [f7 _ (by omega), f6 _ (by omega), f5 _ (by omega), f4 _ (by omega), f3 _ (by omega), e2]; exact hu
    · rw [f7 _ (by omega), f6 _ (by omega), f5 _ (by omega), f4 _ (by omega), e3]; exact hu
    · rw [f7 _ (by omega), f6 _ (by omega), f5 _ (by omega), e4]; exact hu
    · rw [f7 _ (by omega), f6 _ (by omega), e5]; exact hu
    · rw [f7 _ (by omega), e6]; exact hu
    · rw [e7]; exact hu
  · rw [f7 _ (by omega), f6 _ (by omega), f5 _ (by omega), f4 _ (by omega), f3 _ (by omega), f2 _ (by omega), f1 _ (by omega)]
theorem put7_below {a w : World} {B g o : Nat} (h : Below B a w) (hg : B ≤ g) (x : N) : Below B a (put7 w g o x) :=
  ((((((h.setCell hg _).setCell hg _).setCell hg _).setCell hg _).setCell hg _).setCell hg _).setCell hg _
theorem cells7 {cur : Array Value} {o : Nat} (ho : o + 7 ≤ cur.size) : ∃ u0 u1 u2 u3 u4 u5 u6, cur[o]? = some u0 ∧ cur[o + 1]? = some u1 ∧ cur[o + 2]? = some u2 ∧ cur[o + 3]? = some u3 ∧ cur[o + 4]? = some u4 ∧ cur[o + 5]? = some u5 ∧ cur[o + 6]? = some u6 :=
  ⟨_, _, _, _, _, _, _, Array.getElem?_eq_getElem (by omega), Array.getElem?_eq_getElem (by omega), Array.getElem?_eq_getElem (by omega), Array.getElem?_eq_getElem (by omega), Array.getElem?_eq_getElem (by omega), Array.getElem?_eq_getElem (by omega), Array.getElem?_eq_getElem (by omega)⟩
theorem blk_cells {w : World} {g : Nat} {c : Array Value} {t : TypeId} (h : w.heap[g]? = some (.cells c t (0, 0))) : (∀ o, w.cell? ⟨g, o, none⟩ = c[o]?) ∧ ∀ o, w.frozen? ⟨g, o, none⟩ = false := by
  constructor <;> intro o <;> simp [World.cell?, World.frozen?, h]
/-- A list with its marks behind it, in block g. -/
def Wide (w : World) (g : Nat) (l : List N) : Prop :=
  ∃ cur, w.heap[g]? = some (.cells cur 29 (0, 0)) ∧ cur.size = (l.length + 64) * 7 ∧ ∀ j, j < l.length + 64 → ∀ i u, (ncell (wdN l j))[i]? = some u → cur[j * 7 + i]? = some u
theorem Wide.lt {w : World} {g : Nat} {l : List N} (h : Wide w g l) : g < w.heap.size := by
  obtain ⟨cur, h, _⟩ := h; exact (Array.getElem?_eq_some_iff.1 h).1
theorem Wide.below {w w' : World} {g : Nat} {l : List N} (h : Wide w g l) (hB : Below w.heap.size w w') : Wide w' g l := by
  have := h.lt
  obtain ⟨cur, h1, h2, h3⟩ := h
  exact ⟨cur, by rw [hB.block g this]; exact h1, h2, h3⟩
theorem Wide.cells {w : World} {g : Nat} {l : List N} (h : Wide w g l) {j : Nat} (hj : j < l.length + 64) : ∀ i u, (ncell (wdN l j))[i]? = some u → w.cell? ⟨g, j * 7 + i, none⟩ = some u := by
  intro i u hu
  obtain ⟨cur, h1, h2, h3⟩ := h
  rw [(blk_cells h1).1]
  exact h3 j hj i u hu
theorem at_of_each {w : World} {b : Nat} : ∀ {l : List N} {o : Nat}, (∀ k x, l[k]? = some x → ∀ i u, (ncell x)[i]? = some u → w.cell? ⟨b, o + k * 7 + i, none⟩ = some u) → At w b o l
  | [], _, _ => trivial
  | x :: r, o, h => by
    have h0 := h 0 x rfl
    simp only [Nat.zero_mul, Nat.add_zero] at h0
    refine ⟨⟨h0 0 _ rfl, h0 1 _ rfl, h0 2 _ rfl, h0 3 _ rfl, h0 4 _ rfl, h0 5 _ rfl, h0 6 _ rfl⟩, at_of_each fun k y hy i u hu => ?_⟩
    have := h (k + 1) y (by simpa using hy) i u hu
    rwa [show o + (k + 1) * 7 + i = o + 7 + k * 7 + i by omega] at this
theorem Wide.cos {w : World} {g : Nat} {l : List N} (h : Wide w g l) : IsCos w (.slice (some ⟨g, 0, none⟩) l.length (l.length + 64)) l := by
  by_cases h0 : l.length = 0
  · exact .inl ⟨List.length_eq_zero_iff.1 h0, _, _, by rw [h0]⟩
  · refine .inr ⟨g, 0, _, rfl, by omega, at_of_each fun k x hx i u hu => ?_, h.lt⟩
    have hj : k < l.length := (List.getElem?_eq_some_iff.1 hx).1
    rw [Nat.zero_add]
    exact h.cells (j := k) (by omega) i u (by rw [wdN_in hx]; exact hu)
end Cc
set_option maxHeartbeats 4000000 in
theorem wideCos_any (l : List N) (hl4 : l.length ≤ 1000000) (v : Value) (w : World) (hl : IsCos w v l) :
    Calls Tryd.prog 12 #[v] w fun e w' => e = .returned (.slice (some ⟨w.heap.size, 0, none⟩) l.length (l.length + 64)) ∧ Wide w' w.heap.size l ∧ Below w.heap.size w w' := by
  obtain ⟨i0, hi, hz0, hz1, hz2⟩ := info_parts infoCo
  obtain ⟨a, c, rfl⟩ := hl.form
  go_enter Tryd.func12, Tryd.ntmps12
  go_wp2_with (at_make; refine wpList_make_full _ rfl _ _ 22 rfl w.heap.size 29 i0 _ 7 tyCos hi hz0 hz1 _ _ _ _ (l.length + 64) rfl rfl (by go_num) (by go_num) (by rw [hz2]; omega) (by unfold maxLen; omega) (Nat.le_refl _) ?_; intro w1 hown1 hg1)
  obtain ⟨cur0, hc0, hs0⟩ : ∃ cur, w1.heap[w.heap.size]? = some (.cells cur 29 (0, 0)) ∧ cur.size = (l.length + 64) * 7 := by
    obtain ⟨_, ⟨h, _⟩ | ⟨g, cap, cur, h, _, hh, _, _, hs, _⟩⟩ := hown1
    · cases h
    · cases h; exact ⟨cur, hh, by omega⟩
  have hB1 : Below w.heap.size w w1 := ⟨hg1.os, hg1.tape, hg1.output, hg1.size, fun k hk => hg1.block k hk (by simp)⟩
  clear hown1 hg1
  have HL : Aside (IsCos w (.slice a l.length c) l) := hl
  clear hl
  go_loopg [4] (l.length + 64) (fun m cv wr => ∃ (k : Nat) (cur : Array Value), k + m = l.length + 64 ∧ cv = .int .i64 (k : Int) ∧ wr.heap[w.heap.size]? = some (.cells cur 29 (0, 0)) ∧ cur.size = (l.length + 64) * 7 ∧ Aside (∀ j, j < k → ∀ i u, (ncell (wdN l j))[i]? = some u → cur[j * 7 + i]? = some u) ∧ Below w.heap.size w wr)
  case atStart => exact ⟨0, cur0, by omega, rfl, hc0, hs0, fun j hj => absurd hj (by omega), hB1⟩
  case round =>
    clear hc0 hs0 hB1
    obtain ⟨k, cur, hkg, rfl, hcur, hcs, HJ, hB⟩ := hrel
    have hgl : w.heap.size < wr.heap.size := (Array.getElem?_eq_some_iff.1 hcur).1
    have hk0 : (0 : Int) ≤ (k : Int) := by omega
    by_cases hk : k < l.length + 64
    · have hk2 : (k : Int) < (l.length : Int) + 64 := by omega
      have hfz : ∀ o, wr.frozen? ⟨w.heap.size, o, none⟩ = false := (blk_cells hcur).2
      have hbc := (blk_cells hcur).1
      obtain ⟨u0, u1, u2, u3, u4, u5, u6, x0, x1, x2, x3, x4, x5, x6⟩ := cells7 (cur := cur) (o := k * 7) (by omega)
      have y0 := (hbc (k * 7)).trans x0
      have y1 := (hbc (k * 7 + 1)).trans x1
      have y2 := (hbc (k * 7 + 2)).trans x2
      have y3 := (hbc (k * 7 + 3)).trans x3
      have y4 := (hbc (k * 7 + 4)).trans x4
      have y5 := (hbc (k * 7 + 5)).trans x5
      have y6 := (hbc (k * 7 + 6)).trans x6
      obtain ⟨cur', e1, e2, e3, e4⟩ := put7_facts hcur (o := k * 7) (by omega) (wdN l k)
      have HS : Aside (∃ cur', (put7 wr w.heap.size (k * 7) (wdN l k)).heap[w.heap.size]? = some (.cells cur' 29 (0, 0)) ∧ cur'.size = (l.length + 64) * 7 ∧ ∀ j, j < k + 1 → ∀ i u, (ncell (wdN l j))[i]? = some u → cur'[j * 7 + i]? = some u) := by
        refine ⟨cur', e1, by omega, fun j hj i u hu => ?_⟩
        have hi8 : i < 7 := by have := (List.getElem?_eq_some_iff.1 hu).1; simpa [ncell] using this
        by_cases h : j = k
        · subst h; exact e3 i u hu
        · rw [e4 _ (by omega)]; exact HJ.out j (by omega) i u hu
      have HB : Aside (Below w.heap.size w (put7 wr w.heap.size (k * 7) (wdN l k))) := put7_below hB (Nat.le_refl _) _
      clear e1 e2 e3 e4 hbc x0 x1 x2 x3 x4 x5 x6 HJ
      by_cases hkl : k < l.length
      · have hkl' : (k : Int) < (l.length : Int) := by omega
        obtain ⟨x, hx⟩ : ∃ x, l[k]? = some x := ⟨_, List.getElem?_eq_getElem hkl⟩
        obtain ⟨b1, o1, c1, he, hA⟩ := (HL.out.below hB).at hx
        injection he with he _ hce
        subst he hce
        obtain ⟨p0, p1, p2, p3, p4, p5, p6⟩ := hA
        rw [wdN_in hx] at HS HB
        clear hx HL
        go_wp2_with fail
        go_roundg (gk - 1)
        case measure => omega
        case rel =>
          obtain ⟨c', q1, q2, q3⟩ := HS.out
          exact ⟨k + 1, c', by omega, by go_num, q1, q2, q3, HB.out⟩
      · have hkl' : decide ((k : Int) < (l.length : Int)) = false := by simp; omega
        rw [wdN_out (by omega)] at HS HB
        clear HL
        go_wp2_with (go_at_call 37; refine (num_any _ _ (by omega) (by omega) _).mono ?_; rintro e w' ⟨rfl, hw'⟩; replace hw' := hw'.symm; subst hw')
        go_roundg (gk - 1)
        case measure => omega
        case rel =>
          obtain ⟨c', q1, q2, q3⟩ := HS.out
          exact ⟨k + 1, c', by omega, by go_num, q1, q2, q3, HB.out⟩
    · have hk2 : decide ((k : Int) < (l.length : Int) + 64) = false := by simp; omega
      have hn2 : (l.length : Int) ≤ (l.length : Int) + 64 := by omega
      clear HL
      go_wp2_with fail
      go_ret
      exact ⟨rfl, ⟨cur, hcur, hcs, fun j hj => HJ.out j (by omega)⟩, hB⟩
set_option maxHeartbeats 4000000 in
theorem spareCos_any (l : List N) (hlen : l.length ≤ 1000000) (g : Nat) (w : World) (hW : Wide w g l) :
    Calls Tryd.prog 22 #[.slice (some ⟨g, 0, none⟩) l.length (l.length + 64)] w fun e w' => e = .returned (.bool true) ∧ Below w.heap.size w w' := by
  have hn64 : (l.length : Int) + 64 ≤ ((l.length + 64 : Nat) : Int) := by omega
  have hn0 : (0 : Int) ≤ (l.length : Int) + 64 := by omega
  have hcast : ((l.length : Int) + 64).toNat = l.length + 64 := by omega
  go_enter Tryd.func22, Tryd.ntmps22
  go_wp2_with fail
  go_loopg [4] 64 (fun gg t wr => ∃ k : Nat, k + gg = l.length + 64 ∧ l.length ≤ k ∧ t = .int .i64 (k : Int) ∧ Below w.heap.size w wr)
  case atStart => exact ⟨l.length, by omega, by omega, rfl, Below.refl _ _⟩
  case round =>
    obtain ⟨k, hkg, hlk, rfl, hB⟩ := hrel
    by_cases hk : k < l.length + 64
    · have hk' : (k : Int) < ((l.length : Int) + 64) := by omega
      have hk0 : (0 : Int) ≤ (k : Int) := by omega
      have hcx := (hW.below hB).cells hk
      rw [wdN_out hlk] at hcx
      have p0 : wr.cell? ⟨g, k * 7, none⟩ = some (.int .i8 0) := hcx 0 _ rfl
      have p1 : wr.cell? ⟨g, k * 7 + 1, none⟩ = some (.int .i64 0) := hcx 1 _ rfl
      have p2 : wr.cell? ⟨g, k * 7 + 2, none⟩ = some (.bool false) := hcx 2 _ rfl
      have p3 : wr.cell? ⟨g, k * 7 + 3, none⟩ = some (.int .u8 0) := hcx 3 _ rfl
      have p4 : wr.cell? ⟨g, k * 7 + 4, none⟩ = some (.int .i64 (1048576 * 9 + (k : Int) + 1)) := hcx 4 _ rfl
      have p5 : wr.cell? ⟨g, k * 7 + 5, none⟩ = some (.int .u8 0) := hcx 5 _ rfl
      have p6 : wr.cell? ⟨g, k * 7 + 6, none⟩ = some (.int .u8 0) := hcx 6 _ rfl
      have hnum : ∀ w, Calls Tryd.prog 37 #[.int .i64 9, .int .i64 k] w fun e w' => e = .returned (.int .i64 (9437184 + (k : Int) + 1)) ∧ w' = w := num_any 9 k (by omega) (by omega)
      have hws := hB.size
      clear hcx hW
      go_wp2_with fail
      go_quiet ((go_at_call 37; exact Calls.quiet_of_same (hnum _)))
      go_wp2_with fail
      go_roundg (l.length + 64 - (k + 1))
      case measure => omega
      case rel => exact ⟨k + 1, by omega, by omega, by go_num, below_dN (hB.alloc hws _) _⟩
    · have hk' : ¬ (k : Int) < ((l.length : Int) + 64) := by omega
      go_wp2_with fail
      go_ret
      exact ⟨rfl, hB⟩
end Go.Proofs.YtaaokecdmbmgbaaDoor
namespace Go.Proofs.YtaaokecdmbmgbaaDoor
open Go.RowKit Cc
set_option maxRecDepth 100000
set_option linter.unusedSimpArgs false
set_option linter.unusedVariables false
namespace Cc
/-- A node's box, of our own: its cells may be written. -/
structure Box (w : World) (g : Nat) (x : N) : Prop where
  at1 : At1 w g 0 x
  fz : ∀ o, w.frozen? ⟨g, o, none⟩ = false
  lt : g < w.heap.size
theorem Box.of_heap {w : World} {g : Nat} {x : N} {t : TypeId} (h : w.heap[g]? = some (.cells #[.int .i8 x.op, .int .i64 x.proj, .bool x.inj, .int .u8 x.head, .int .i64 x.label, .int .u8 x.frm, .int .u8 x.tto] t (0, 0))) : Box w g x :=
  ⟨⟨Lib.cell_of_heap h 0, Lib.cell_of_heap h 1, Lib.cell_of_heap h 2, Lib.cell_of_heap h 3, Lib.cell_of_heap h 4, Lib.cell_of_heap h 5, Lib.cell_of_heap h 6⟩, Lib.frozen_of_heap h, (Array.getElem?_eq_some_iff.1 h).1⟩
theorem Box.below {w w' : World} {g : Nat} {x : N} (h : Box w g x) (hB : Below w.heap.size w w') : Box w' g x :=
  ⟨h.at1.below h.lt hB, fun o => (hB.frozen (p := ⟨g, o, none⟩) h.lt).trans (h.fz o), Nat.lt_of_lt_of_le h.lt hB.size⟩
theorem Box.grown {w w' : World} {g : Nat} {x : N} {row : Option Nat} (h : Box w g x) (hg : w.grownBy w' row) (hn : some g ≠ row) : Box w' g x := by
  have hb := hg.block g h.lt hn
  have e : ∀ o, w'.cell? ⟨g, o, none⟩ = w.cell? ⟨g, o, none⟩ := fun o => World.cell?_of_block hb
  refine ⟨?_, fun o => (World.frozen?_of_block (a := ⟨g, o, none⟩) hb).trans (h.fz o), Nat.lt_of_lt_of_le h.lt hg.size⟩
  have := h.at1
  unfold At1 at this ⊢
  simp only [e]
  exact this
theorem Keep.set {w W : World} (h : Keep w W) (g o : Nat) (u : Value) (hg : w.heap.size ≤ g) : Keep w (W.setCell ⟨g, o, none⟩ u) :=
  ⟨by simpa using h.sz, fun k c t fz e n => by
    rw [Below.heap_setCell _ _ _ _ (show k ≠ g from fun he => by have := (Array.getElem?_eq_some_iff.1 e).1; omega)]
    exact h.kp k c t fz e n⟩
/-- What holds while a node's box is being filled. -/
structure Fil (w0 w W : World) (lv : Value) (l : List N) : Prop where
  own : Own w0 W lv l
  bl : Below w0.heap.size w0 W
  kp : Keep w W
  lt : w.heap.size < W.heap.size
  ne : ∀ g, lv.ownBlock = some g → g ≠ w.heap.size
  lo : w0.heap.size ≤ w.heap.size
theorem Fil.set {w0 w W : World} {lv : Value} {l : List N} (h : Fil w0 w W lv l) (o : Nat) (u : Value) : Fil w0 w (W.setCell ⟨w.heap.size, o, none⟩ u) lv l :=
  ⟨h.own.set _ _ _ h.ne, h.bl.setCell (p := ⟨w.heap.size, o, none⟩) h.lo _, h.kp.set _ _ _ (Nat.le_refl _), by simpa using h.lt, h.ne, h.lo⟩
theorem Fil.alloc {w0 w W : World} {lv : Value} {l : List N} (h : Fil w0 w W lv l) (o : Obj) : Fil w0 w (W.alloc o) lv l :=
  ⟨h.own.below ((Below.refl _ _).alloc (Nat.le_refl _) _), h.bl.alloc h.bl.size _, h.kp.alloc _, by have := h.lt; simp; omega, h.ne, h.lo⟩
theorem Fil.below {w0 w W W' : World} {lv : Value} {l : List N} (h : Fil w0 w W lv l) (hB : Below W.heap.size W W') : Fil w0 w W' lv l :=
  ⟨h.own.below hB, h.bl.trans (hB.mono h.bl.size), h.kp.trans (Keep.of hB), Nat.lt_of_lt_of_le h.lt hB.size, h.ne, h.lo⟩
theorem Fil.start {w0 w : World} {lv : Value} {l : List N} (hO : Own w0 w lv l) (hB : Below w0.heap.size w0 w) (o : Obj) : Fil w0 w (w.alloc o) lv l :=
  ⟨hO.below ((Below.refl _ _).alloc (Nat.le_refl _) _), hB.alloc hB.size _, (Keep.refl w).alloc _, by simp, fun g e => by have := (hO.blk e).2; omega, hB.size⟩
/-- The box of what was appended to is another one. -/
theorem Fil.cell {w0 w W w' : World} {lv : Value} {l : List N} (h : Fil w0 w W lv l) (hg : W.grownBy w' lv.ownBlock) (o : Nat) : w'.cell? ⟨w.heap.size, o, none⟩ = W.cell? ⟨w.heap.size, o, none⟩ :=
  World.cell?_of_block (a := ⟨w.heap.size, o, none⟩) (hg.block w.heap.size h.lt (fun e => h.ne _ e.symm rfl))
end Cc
set_option maxHeartbeats 3200000 in
theorem lay_b (c : UInt8) (hc : c = 105 ∨ c = 98) (r : Bool) (p : Int) (w0 w : World) (lv : Value) (l : List N) (hB : Below w0.heap.size w0 w) (hO : Own w0 w lv l) (hl : l.length ≤ 1000) :
    Calls Tryd.prog 30 #[lv, .string (if r then sB c else sB 63), .string (if r then sB 63 else sB c), .int .i64 p] w (ThEnd w0 w (l ++ [⟨2, if r then 0 else p, r, (c.toNat : Int), 0, 0, 0⟩])) := by
  have cg : ∀ W, Calls Tryd.prog 51 #[.string (sB c)] W fun e w' => e = .returned (.string (sB c)) ∧ Below W.heap.size W w' := ground_b c hc
  have cp : ∀ W, Calls Tryd.prog 52 #[.string (sB c)] W fun e w' => ∃ a k, e = .returned (.slice a 0 k) ∧ Below W.heap.size W w' := parts_b c hc
  have ch := head_b c hc
  have co : ∀ W, Calls Tryd.prog 54 #[.int .u8 (c.toNat : Int)] W fun e w' => e = .returned (.int .i8 2) ∧ w' = W := fun W => by
    have h := opOf_any (c.toNat : Int) W
    rwa [show opB (c.toNat : Int) = 2 by rcases hc with rfl | rfl <;> rfl] at h
  have HO : Aside (Own w0 w lv l) := hO
  have HB : Aside (Below w0.heap.size w0 w) := hB
  have HL : Aside (l.length ≤ 1000) := hl
  clear hO hB hl
  rcases hc with rfl | rfl <;> cases r <;> simp only [if_true, if_false, Bool.false_eq_true]
  all_goals
    go_enter Tryd.func30, Tryd.ntmps30
    go_wp2_with (first | (go_at_call 51; refine (cg _).mono ?_; rintro e w1 ⟨rfl, hB1⟩; have HX : Box w1 w.heap.size ⟨0, 0, false, 0, 0, 0, 0⟩ := (Box.of_heap (heap_alloc_new _ _)).below hB1; have HF : Aside (Fil w0 w w1 lv l) := (Fil.start HO.out HB.out _).below hB1; obtain ⟨⟨b0, b1, b2, b3, b4, b5, b6⟩, hfz, hlt⟩ := HX; clear hB1) | (go_at_call 53; refine (ch _).mono ?_; rintro e w2 ⟨rfl, rfl⟩) | (go_at_call 54; refine (co _).mono ?_; rintro e w3 ⟨rfl, rfl⟩) | (at_builtin; go_must (refine wpList_app rfl _ _ rfl w0 _ lv l rfl ((((HF.out.set _ _).set _ _).set _ _).alloc _).own ((((HF.out.set _ _).set _ _).set _ _).alloc _).bl ⟨w1.heap.size, 0, none⟩ 1 1 _ rfl rfl (cells_new _ _ _ _ _ _ _ _ _ _ (by simp)) (by decide) (by have := HL.out; omega) ?_); intro v' w' hO' hB' hK' hg' hf'; have HO' : Aside (Own w0 w' v' _) := hO'; have HB' : Aside (Below w0.heap.size w0 w') := hB'; have HK' : Aside (Keep w w') := ((((HF.out.set _ _).set _ _).set _ _).alloc _).kp.trans hK'; have r0 : w'.cell? ⟨w.heap.size, 0, none⟩ = some (.int .i8 2) := (((((HF.out.set _ _).set _ _).set _ _).alloc _).cell hg' 0).trans (by go_simp); have hlt' : w.heap.size < w'.heap.size := Nat.lt_of_lt_of_le ((((HF.out.set _ _).set _ _).set _ _).alloc _).lt hg'.size; clear hO' hB' hK' hg' hf' b0 b1 b2 b3 b4 b5 b6 hfz hlt) | (go_at_call 52; refine (cp _).mono ?_; rintro e w4 ⟨a4, k4, rfl, hB4⟩; have r0 := (hB4.cell (p := ⟨w.heap.size, 0, none⟩) hlt').trans r0; have hlt' := Nat.lt_of_lt_of_le hlt' hB4.size; have HO' : Aside (Own w0 w4 v' _) := HO'.out.below hB4; have HB' : Aside (Below w0.heap.size w0 w4) := HB'.out.trans (hB4.mono HB'.out.size); have HK' : Aside (Keep w w4) := HK'.out.trans (Keep.of hB4); clear hB4))
    go_ret
    exact ⟨v', rfl, HO'.out, HB'.out, HK'.out⟩
end Go.Proofs.YtaaokecdmbmgbaaDoor
namespace Go.Proofs.YtaaokecdmbmgbaaDoor
open Go.RowKit Cc
set_option maxRecDepth 100000
set_option linter.unusedSimpArgs false
set_option linter.unusedVariables false
namespace Cc
theorem Own.drew {w0 w : World} {v : Value} {l : List N} (h : Own w0 w v l) : Own w0 w.drew v l := ⟨h.1, h.2⟩
/-- A row of two texts, in a block of texts. -/
structure Tw2 (W : World) (g : Nat) (x y : ByteArray) : Prop where
  c0 : W.cell? ⟨g, 0, none⟩ = some (.string x)
  c1 : W.cell? ⟨g, 1, none⟩ = some (.string y)
  bk : ∃ cs, W.heap[g]? = some (Obj.cells cs 9 (0, 0))
theorem Tw2.lt {W : World} {g : Nat} {x y : ByteArray} (h : Tw2 W g x y) : g < W.heap.size := by
  obtain ⟨cs, e⟩ := h.bk
  exact (Array.getElem?_eq_some_iff.1 e).1
theorem Tw2.keep {W W' : World} {g : Nat} {x y : ByteArray} (h : Tw2 W g x y) (hk : Keep W W') : Tw2 W' g x y := by
  obtain ⟨cs, e⟩ := h.bk
  have hb := hk.kp g cs 9 (0, 0) e (by decide)
  exact ⟨(World.cell?_of_block (a := ⟨g, 0, none⟩) hb).trans h.c0, (World.cell?_of_block (a := ⟨g, 1, none⟩) hb).trans h.c1, cs, hb.trans e⟩
theorem own_two' {W : World} {B : Nat} {v : Value} {x y : List UInt8} (h : W.ownsRow B 9 1 v 2 (T3.tcells [x, y])) : ∃ g k, v = .slice (some ⟨g, 0, none⟩) 2 k ∧ Tw2 W g (T3.S x) (T3.S y) := by
  obtain ⟨g, k, e, h1, h2, h3, h4⟩ := own_two h
  rcases h.2 with ⟨_, hn⟩ | ⟨g', cap, cur, e', -, hb, -⟩
  · omega
  · rw [e] at e'
    injection e' with e' _ _
    injection e' with e'
    injection e' with e' _ _
    subst e'
    exact ⟨g, k, e, h3, h4, cur, hb⟩
end Cc
theorem parts_f2 (a b : T3.Tp.Ty) (h : (T3.Tp.enc (.tf a b)).length ≤ 64) (W : World) :
    Calls Tryd.prog 52 #[.string (T3.S (T3.Tp.enc (.tf a b)))] W fun e w' => ∃ g k, e = .returned (.slice (some ⟨g, 0, none⟩) 2 k) ∧ Tw2 w' g (T3.S (T3.Tp.enc a)) (T3.S (T3.Tp.enc b)) ∧ Below W.heap.size W w' := by
  refine (T3.parts_yes (.tf a b) h W).mono ?_
  rintro e w' ⟨v, rfl, hO, hB⟩
  obtain ⟨g, k, rfl, h1⟩ := own_two' hO
  exact ⟨g, k, rfl, h1, hB⟩
def Cc.LyC (s1 s2 : ByteArray) (p : Int) (r : List N) : Prop := ∀ (w0 W : World) (lv : Value) (l : List N), Below w0.heap.size w0 W → Own w0 W lv l → l.length ≤ 1000 → Calls Tryd.prog 30 #[lv, .string s1, .string s2, .int .i64 p] W (ThEnd w0 W (l ++ r))
set_option maxHeartbeats 6400000 in
theorem lay_f (a b c d : T3.Tp.Ty) (h1 : (T3.Tp.enc (.tf a b)).length ≤ 64) (h2 : (T3.Tp.enc (.tf c d)).length ≤ 64) (p : Int) (hp : -100 ≤ p ∧ p ≤ 100) (r1 r2 : List N) (k1 : LyC (T3.S (T3.Tp.enc c)) (T3.S (T3.Tp.enc a)) (-p) r1) (k2 : LyC (T3.S (T3.Tp.enc b)) (T3.S (T3.Tp.enc d)) p r2) (hr : r1.length ≤ 100)
    (w0 w : World) (lv : Value) (l : List N) (hB : Below w0.heap.size w0 w) (hO : Own w0 w lv l) (hl : l.length ≤ 100) :
    Calls Tryd.prog 30 #[lv, .string (T3.S (T3.Tp.enc (.tf a b))), .string (T3.S (T3.Tp.enc (.tf c d))), .int .i64 p] w (ThEnd w0 w (((l ++ [⟨3, 0, false, 62, 0, 0, 0⟩]) ++ r1) ++ r2)) := by
  have cp1 := parts_f2 a b h1
  have cp2 := parts_f2 c d h2
  have ch := T3.head_yes (.tf a b) h1
  have hh : (T3.Tp.hd (.tf a b)).toNat = 62 := rfl
  rw [hh] at ch
  have co : ∀ W, Calls Tryd.prog 54 #[.int .u8 62] W fun e w' => e = .returned (.int .i8 3) ∧ w' = W := fun W => opOf_any 62 W
  have n1 : ((T3.S (T3.Tp.enc (.tf a b))).toList == [63]) = false := by rw [ByteArray.toList_eq]; simp [T3.S, T3.Tp.enc]
  have n2 : ((T3.S (T3.Tp.enc (.tf c d))).toList == [63]) = false := by rw [ByteArray.toList_eq]; simp [T3.S, T3.Tp.enc]
  have K1 : Aside (LyC (T3.S (T3.Tp.enc c)) (T3.S (T3.Tp.enc a)) (-p) r1) := k1
  have K2 : Aside (LyC (T3.S (T3.Tp.enc b)) (T3.S (T3.Tp.enc d)) p r2) := k2
  clear hh k1 k2 h1 h2
  generalize T3.S (T3.Tp.enc (.tf a b)) = s1 at *
  generalize T3.S (T3.Tp.enc (.tf c d)) = s2 at *
  generalize T3.S (T3.Tp.enc a) = sa at *
  generalize T3.S (T3.Tp.enc b) = sb at *
  generalize T3.S (T3.Tp.enc c) = sc at *
  generalize T3.S (T3.Tp.enc d) = sd at *
  have HO : Aside (Own w0 w lv l) := hO
  have HB : Aside (Below w0.heap.size w0 w) := hB
  have HL : Aside (l.length ≤ 100 ∧ r1.length ≤ 100) := ⟨hl, hr⟩
  clear hO hB hl hr
  obtain ⟨M, hM⟩ : ∃ M, M = ((l ++ [(⟨3, 0, false, 62, 0, 0, 0⟩ : N)]) ++ r1) ++ r2 := ⟨_, rfl⟩
  rw [← hM]
  have HM : Aside (M = ((l ++ [(⟨3, 0, false, 62, 0, 0, 0⟩ : N)]) ++ r1) ++ r2) := hM
  clear hM
  obtain ⟨hp1, hp2⟩ := hp
  go_enter Tryd.func30, Tryd.ntmps30
  go_wp2_with (first | (go_at_call 53; refine (ch _).mono ?_; rintro e w2 ⟨rfl, rfl⟩) | (go_at_call 54; refine (co _).mono ?_; rintro e w3 ⟨rfl, rfl⟩) | (at_builtin; go_must (refine wpList_app rfl _ _ rfl w0 _ lv l rfl ((Fil.start HO.out HB.out _).alloc _).own ((Fil.start HO.out HB.out _).alloc _).bl ⟨w.heap.size + 1, 0, none⟩ 1 1 _ rfl rfl (cells_new _ _ _ _ _ _ _ _ _ _ (by simp)) (by decide) (by have := HL.out; omega) ?_); intro v' w' hO' hB' hK' hg' hf'; have HO' : Aside (Own w0 w' v' _) := hO'; have HB' : Aside (Below w0.heap.size w0 w') := hB'; have HK' : Aside (Keep w w') := ((Fil.start HO.out HB.out _).alloc _).kp.trans hK'; have r0 : w'.cell? ⟨w.heap.size, 0, none⟩ = some (.int .i8 3) := (((Fil.start HO.out HB.out _).alloc _).cell hg' 0).trans (by go_simp); have hlt' : w.heap.size < w'.heap.size := Nat.lt_of_lt_of_le ((Fil.start HO.out HB.out _).alloc _).lt hg'.size; clear hO' hB' hK' hg' hf') | (go_at_call 52; refine (cp1 _).mono ?_; rintro e w4 ⟨g1, k1, rfl, hT1, hB4⟩; clear cp1; have HT1 : Aside (Tw2 w4 g1 sa sb) := hT1; have r0 := (hB4.cell (p := ⟨w.heap.size, 0, none⟩) hlt').trans r0; have hlt' := Nat.lt_of_lt_of_le hlt' hB4.size; have HO' : Aside (Own w0 w4 v' _) := HO'.out.below hB4; have HB' : Aside (Below w0.heap.size w0 w4) := HB'.out.trans (hB4.mono HB'.out.size); have HK' : Aside (Keep w w4) := HK'.out.trans (Keep.of hB4); clear hB4 hT1) | (go_at_call 52; refine (cp2 _).mono ?_; rintro e w5 ⟨g2, k2, rfl, hT2, hB4⟩; clear cp2; have HT2 : Aside (Tw2 w5 g2 sc sd) := hT2; have HT1 : Aside (Tw2 w5 g1 sa sb) := HT1.out.keep (Keep.of hB4); have r0 := (hB4.cell (p := ⟨w.heap.size, 0, none⟩) hlt').trans r0; have HO' : Aside (Own w0 w5 v' _) := HO'.out.below hB4; have HB' : Aside (Below w0.heap.size w0 w5) := HB'.out.trans (hB4.mono HB'.out.size); have HK' : Aside (Keep w w5) := HK'.out.trans (Keep.of hB4); clear hB4 hT2 hlt'))
  clear r0
  have c10 := HT1.out.c0
  have c20 := HT2.out.c0
  have hmix : Tryd.prog.follows .mixedOrders = true := by kernel_rfl
  have hneg : IntKind.i64.wrap (-p) = -p := IntWalk.i64_in _ ⟨by omega, by omega⟩
  go_wp2_with fail
  go_still_tail 9, hmix
  go_wp2_with fail
  refine (K1.out w0 w5.drew v' (l ++ [(⟨3, 0, false, 62, 0, 0, 0⟩ : N)]) HB'.out.drew HO'.out.drew (by have := HL.out; simp; omega)).mono ?_
  rintro e w6 ⟨v6, rfl, hO6, hB6, hK6⟩
  have HO6 : Aside (Own w0 w6 v6 ((l ++ [⟨3, 0, false, 62, 0, 0, 0⟩]) ++ r1)) := hO6
  have HB6 : Aside (Below w0.heap.size w0 w6) := hB6
  have hK5 : Keep w5 w6 := ⟨hK6.sz, hK6.kp⟩
  have HK6 : Aside (Keep w w6) := HK'.out.trans hK5
  have c11 := (HT1.out.keep hK5).c1
  have c21 := (HT2.out.keep hK5).c1
  clear hO6 hB6 hK6 hK5 c10 c20 HO' HB' HK' HT1 HT2
  go_wp2_with fail
  go_still_tail 8, hmix
  go_wp2_with fail
  refine (K2.out w0 w6.drew v6 ((l ++ [(⟨3, 0, false, 62, 0, 0, 0⟩ : N)]) ++ r1) HB6.out.drew HO6.out.drew (by have := HL.out; simp; omega)).mono ?_
  rintro e w7 ⟨v7, rfl, hO7, hB7, hK7⟩
  have hK8 : Keep w6 w7 := ⟨hK7.sz, hK7.kp⟩
  have HE : Aside (Own w0 w7 v7 M ∧ Below w0.heap.size w0 w7 ∧ Keep w w7) := ⟨by rw [HM.out]; exact hO7, hB7, HK6.out.trans hK8⟩
  clear hO7 hB7 hK7 hK8 c11 c21
  go_wp2_with fail
  go_ret
  exact ⟨v7, rfl, HE.out.1, HE.out.2.1, HE.out.2.2⟩
end Go.Proofs.YtaaokecdmbmgbaaDoor
namespace Go.Proofs.YtaaokecdmbmgbaaDoor
open Go.RowKit Cc
set_option maxRecDepth 100000
set_option linter.unusedSimpArgs false
set_option linter.unusedVariables false
theorem isTypeC_yes (t : Ty) (h : (T3.Tp.enc t).length ≤ 64) (w : World) : Calls Tryd.prog 26 #[.string (T3.S (T3.Tp.enc t))] w fun e w' => e = .returned (.bool true) ∧ w' = w := by
  have hc := T3.check_any (T3.S (T3.Tp.enc t)) w
  rw [T3.S_list, T3.Tp.chk_enc t h] at hc
  generalize T3.S (T3.Tp.enc t) = s at *
  generalize (T3.Tp.enc t).length = n at *
  go_enter Tryd.func26, Tryd.ntmps26
  go_wp2_with (go_at_call 48; refine hc.mono ?_; rintro e w1 ⟨rfl, rfl⟩)
  go_ret
  exact ⟨rfl, rfl⟩
namespace Cc
def zro : List Value := [.int .i8 0, .int .i64 0, .bool false, .int .u8 0, .int .i64 0, .int .u8 0, .int .u8 0]
end Cc
theorem mk3 (w : World) : (Instr.makeSlice 22 (.int .i64 0) (.int .u64 3)).run Tryd.prog w = .ok (.slice (some ⟨w.heap.size, 0, none⟩) 0 3) (w.alloc (.cells (zro ++ zro ++ zro).toArray 29)) := by kernel_rfl
theorem own_mk3 (w0 w : World) (hB : w0.heap.size ≤ w.heap.size) : Own w0 (w.alloc (.cells (zro ++ zro ++ zro).toArray 29)) (.slice (some ⟨w.heap.size, 0, none⟩) 0 3) [] :=
  ⟨by simp [crow], .inr ⟨w.heap.size, 3, (zro ++ zro ++ zro).toArray, rfl, hB, heap_alloc_new _ _, by decide, by decide, rfl, rfl⟩⟩
set_option maxHeartbeats 1600000 in
theorem Of_f (a b c d : Ty) (h1 : (T3.Tp.enc (.tf a b)).length ≤ 64) (h2 : (T3.Tp.enc (.tf c d)).length ≤ 64) (p : Int) (hp : -100 ≤ p ∧ p ≤ 100) (hp0 : p ≠ 0) (r1 r2 : List N) (k1 : LyC (T3.S (T3.Tp.enc c)) (T3.S (T3.Tp.enc a)) (-p) r1) (k2 : LyC (T3.S (T3.Tp.enc b)) (T3.S (T3.Tp.enc d)) p r2) (hr : r1.length ≤ 100)
    (hcns : T3.Tp.cns (.tf a b) (.tf c d) = true) (hsz : ∀ W, Calls Tryd.prog 29 #[.string (T3.S (T3.Tp.enc (.tf a b))), .string (T3.S (T3.Tp.enc (.tf c d)))] W fun e w' => e = .returned (.int .u64 3) ∧ Below W.heap.size W w') (w : World) :
    Calls Tryd.prog 7 #[.string (T3.S (T3.Tp.enc (.tf a b))), .string (T3.S (T3.Tp.enc (.tf c d))), .int .i64 p] w fun e w' => ∃ v, e = .returned (.tuple #[v, .int .i64 0]) ∧ Own w w' v ((([⟨3, 0, false, 62, 0, 0, 0⟩] : List N) ++ r1) ++ r2) ∧ Below w.heap.size w w' := by
  have ci1 := isTypeC_yes (.tf a b) h1
  have ci2 := isTypeC_yes (.tf c d) h2
  have cc : ∀ W, Calls Tryd.prog 27 #[.string (T3.S (T3.Tp.enc (.tf a b))), .string (T3.S (T3.Tp.enc (.tf c d)))] W fun e w' => e = .returned (.bool true) ∧ Below W.heap.size W w' := fun W => by
    have h := T3.consistent_yes (.tf a b) (.tf c d) h1 h2 W
    rwa [hcns] at h
  have cl : ∀ W, Calls Tryd.prog 28 #[.int .i64 p] W fun e w' => e = .returned (.bool true) ∧ w' = W := fun W => by
    have h := isLabel_any p W
    rwa [isLab_iff.2 ⟨hp0, by omega, by omega⟩] at h
  have cy : ∀ W lv, Below w.heap.size w W → Own w W lv [] → Calls Tryd.prog 30 #[lv, .string (T3.S (T3.Tp.enc (.tf a b))), .string (T3.S (T3.Tp.enc (.tf c d))), .int .i64 p] W fun e w' => ∃ v, e = .returned v ∧ Own w w' v ((([⟨3, 0, false, 62, 0, 0, 0⟩] : List N) ++ r1) ++ r2) ∧ Below w.heap.size w w' := fun W lv hB hO =>
    (lay_f a b c d h1 h2 p hp r1 r2 k1 k2 hr w W lv [] hB hO (by simp)).mono (by rintro e w' ⟨v, rfl, hO', hB', -⟩; exact ⟨v, rfl, by simpa using hO', hB'⟩)
  clear k1 k2 hcns h1 h2
  generalize T3.S (T3.Tp.enc (.tf a b)) = s1 at *
  generalize T3.S (T3.Tp.enc (.tf c d)) = s2 at *
  generalize (([⟨3, 0, false, 62, 0, 0, 0⟩] : List N) ++ r1) ++ r2 = R at *
  have m3 := mk3
  generalize hz : (zro ++ zro ++ zro).toArray = Z at *
  have HZ : Aside ((zro ++ zro ++ zro).toArray = Z) := hz
  clear hz
  go_enter Tryd.func7, Tryd.ntmps7
  go_wp2_with (first | (go_at_call 26; refine (ci1 _).mono ?_; rintro e w1 ⟨rfl, rfl⟩; clear ci1) | (go_at_call 26; refine (ci2 _).mono ?_; rintro e w2 ⟨rfl, rfl⟩; clear ci2) | (go_at_call 27; refine (cc _).mono ?_; rintro e w3 ⟨rfl, hB3⟩) | (go_at_call 28; refine (cl _).mono ?_; rintro e w4 ⟨rfl, rfl⟩) | (go_at_call 29; refine (hsz _).mono ?_; rintro e w5 ⟨rfl, hB5⟩; have hB6 := hB3.trans (hB5.mono hB3.size)) | (go_at_call 30; refine (cy _ _ (hB6.alloc hB6.size _) (by rw [← HZ.out]; exact own_mk3 _ _ hB6.size)).mono ?_; rintro e w7 ⟨v7, rfl, hO7, hB7⟩))
  go_ret2
  exact ⟨v7, rfl, hO7, hB7⟩
/-- The two casts of works. -/
theorem lyc_b (c : UInt8) (hc : c = 105 ∨ c = 98) (p : Int) : LyC (sB 63) (sB c) p [⟨2, p, false, (c.toNat : Int), 0, 0, 0⟩] ∧ LyC (sB c) (sB 63) p [⟨2, 0, true, (c.toNat : Int), 0, 0, 0⟩] :=
  ⟨fun w0 W lv l hB hO hl => lay_b c hc false p w0 W lv l hB hO hl, fun w0 W lv l hB hO hl => lay_b c hc true p w0 W lv l hB hO hl⟩
theorem Of_1 (w : World) : Calls Tryd.prog 7 #[.string ⟨#[62, 105, 105]⟩, .string ⟨#[62, 63, 63]⟩, .int .i64 5] w fun e w' => ∃ v, e = .returned (.tuple #[v, .int .i64 0]) ∧ Own w w' v [⟨3, 0, false, 62, 0, 0, 0⟩, ⟨2, -5, false, 105, 0, 0, 0⟩, ⟨2, 0, true, 105, 0, 0, 0⟩] ∧ Below w.heap.size w w' :=
  Of_f .ti .ti .tq .tq (by decide) (by decide) 5 (by decide) (by decide) _ _ (lyc_b 105 (.inl rfl) (-5)).1 (lyc_b 105 (.inl rfl) 5).2 (by decide) (by decide) (size_f .ti .ti .tq .tq (by decide) (by decide) (size_b 105 (.inl rfl) true) (size_b 105 (.inl rfl) true)) w
theorem Of_2 (w : World) : Calls Tryd.prog 7 #[.string ⟨#[62, 63, 63]⟩, .string ⟨#[62, 105, 98]⟩, .int .i64 7] w fun e w' => ∃ v, e = .returned (.tuple #[v, .int .i64 0]) ∧ Own w w' v [⟨3, 0, false, 62, 0, 0, 0⟩, ⟨2, 0, true, 105, 0, 0, 0⟩, ⟨2, 7, false, 98, 0, 0, 0⟩] ∧ Below w.heap.size w w' :=
  Of_f .tq .tq .ti .tb (by decide) (by decide) 7 (by decide) (by decide) _ _ (lyc_b 105 (.inl rfl) (-7)).2 (lyc_b 98 (.inr rfl) 7).1 (by decide) (by decide) (size_f .tq .tq .ti .tb (by decide) (by decide) (size_b 105 (.inl rfl) false) (size_b 98 (.inr rfl) false)) w
end Go.Proofs.YtaaokecdmbmgbaaDoor
namespace Go.Proofs.YtaaokecdmbmgbaaDoor
open Go.RowKit Cc
set_option maxRecDepth 100000
set_option linter.unusedSimpArgs false
set_option linter.unusedVariables false
namespace Cc
def l1 : List N := [⟨3, 0, false, 62, 0, 0, 0⟩, ⟨2, -5, false, 105, 0, 0, 0⟩, ⟨2, 0, true, 105, 0, 0, 0⟩]
def l2 : List N := [⟨3, 0, false, 62, 0, 0, 0⟩, ⟨2, 0, true, 105, 0, 0, 0⟩, ⟨2, 7, false, 98, 0, 0, 0⟩]
def l3 : List N := [⟨3, 0, false, 62, 0, 0, 0⟩, ⟨2, 0, false, 105, 0, 0, 0⟩, ⟨7, 0, false, 105, 7, 105, 98⟩]
def c1 : C := .tw .fn 0 false (.bs (-5) false .hi) (.bs 0 true .hi)
def c2 : C := .tw .fn 0 false (.bs 0 true .hi) (.bs 7 false .hb)
def c3 : C := .tw .fn 0 false (.bs 0 false .hi) (.fl 0 .hi 7 .hb)
theorem wh1 : whole l1 = some c1 := by decide
theorem wh2 : whole l2 = some c2 := by decide
theorem wh3 : (whole l3).isSome = true := by decide
theorem mt12 : meets c1 c2 = true := by simp [c1, c2, meets, t0, t1]
theorem th12 : thn c1 c2 = c3 := by simp [c1, c2, c3, thn, t0, t1]
theorem fl3 : flat c3 = l3 := by decide
def ts3 : List (List UInt8) := [[62], [105], (35 :: Lib.decDigits 7) ++ [105] ++ [98]]
theorem wr3 : ∀ (k : Nat) x t, l3[k]? = some x → ts3[k]? = some t → Wr x t := by
  intro k x t hx ht
  match k, hx, ht with
  | 0, hx, ht => cases hx; cases ht; exact ⟨rfl, rfl, .inl ⟨62, by decide, by decide, rfl, rfl⟩⟩
  | 1, hx, ht => cases hx; cases ht; exact ⟨rfl, rfl, .inl ⟨105, by decide, by decide, rfl, rfl⟩⟩
  | 2, hx, ht => cases hx; cases ht; exact ⟨rfl, rfl, .inr ⟨7, 105, 98, by decide, rfl, rfl, rfl, rfl, rfl⟩⟩
  | k + 3, hx, _ => simp [l3] at hx
theorem dd7 : Lib.decDigits 7 = [55] := by
  first | (unfold Lib.decDigits; simp; done) | (simp [Lib.decDigits]; done) | kernel_rfl
theorem tx3 : (⟨ts3.flatten.toArray⟩ : ByteArray) = ⟨#[62, 105, 35, 55, 105, 98]⟩ := by unfold ts3; rw [dd7]; rfl
theorem ln3 : ts3.flatten.length ≤ 10000 := by unfold ts3; rw [dd7]; decide
end Cc
set_option maxHeartbeats 1600000 in
theorem works_any (w : World) : Calls Tryd.prog 10 #[] w fun e w' => e = .returned (.bool true) ∧ Below w.heap.size w w' := by
  have hT : ∀ W v1 v2, IsCos W v1 l1 → IsCos W v2 l2 → Calls Tryd.prog 35 #[v1, v2] W fun e w' => ∃ v, e = .returned (.tuple #[v, .int .i64 0]) ∧ Own W w' v l3 ∧ Below W.heap.size W w' := fun W v1 v2 h1 h2 => by
    refine (Then_any l1 l2 v1 v2 W h1 h2 (by decide) (by decide)).mono ?_
    rintro e w' ⟨hE, hB⟩
    rw [wh1, wh2] at hE
    simp only [TnEnd] at hE
    rw [if_pos mt12, th12, fl3] at hE
    obtain ⟨v, rfl, hO⟩ := hE
    exact ⟨v, rfl, hO, hB⟩
  have hX : ∀ W v, IsCos W v l3 → Calls Tryd.prog 36 #[v] W fun e w' => e = .returned (.tuple #[.string ⟨#[62, 105, 35, 55, 105, 98]⟩, .int .i64 0]) ∧ Below W.heap.size W w' := fun W v h => by
    have := Text_any l3 ts3 v W h (by decide) rfl wr3 ln3 wh3
    rwa [tx3] at this
  have o1 := Of_1
  have o2 := Of_2
  go_enter Tryd.func10, Tryd.ntmps10
  go_wp2_with fail
  refine (o1 _).mono ?_
  rintro e w1 ⟨v1, rfl, hO1, hB1⟩
  have H1 : Aside (IsCos w1 v1 l1) := IsCos.own hO1
  clear hO1 o1
  go_wp2_with fail
  refine (o2 _).mono ?_
  rintro e w2 ⟨v2, rfl, hO2, hB2⟩
  have H2 : Aside (IsCos w2 v2 l2) := IsCos.own hO2
  have H1 : Aside (IsCos w2 v1 l1) := H1.out.below hB2
  have hB2 := hB1.trans (hB2.mono hB1.size)
  clear hO2 o2 hB1
  go_wp2_with fail
  refine (hT _ v1 v2 H1.out H2.out).mono ?_
  rintro e w3 ⟨v3, rfl, hO3, hB3⟩
  have H3 : Aside (IsCos w3 v3 l3) := IsCos.own hO3
  have hB3 := hB2.trans (hB3.mono hB2.size)
  clear hO3 hT
  go_wp2_with fail
  refine (hX _ v3 H3.out).mono ?_
  rintro e w4 ⟨rfl, hB4⟩
  have hB4 := hB3.trans (hB4.mono hB3.size)
  go_wp2_with fail
  go_ret
  exact ⟨rfl, hB4⟩
end Go.Proofs.YtaaokecdmbmgbaaDoor
namespace Go.Proofs.YtaaokecdmbmgbaaDoor
open Go.ChangeShapes Go.WideShapes Go.RowKit Cc
set_option maxRecDepth 100000
set_option linter.unusedVariables false

def fieldsOf (P : Program) (t : TypeId) : List (Nat × Nat) := match P.underlying t with
  | some (.struct fs) => fs.toList.map fun f => (f.type, f.offset)
  | _ => []
theorem coF : fieldsOf Tryd.prog 29 = [(27, 0), (2, 1), (4, 2), (5, 3), (2, 4), (5, 5), (5, 6)] := by kernel_rfl
theorem fields_some {P : Program} {t : TypeId} {l : List (Nat × Nat)} {x : Nat × Nat} (h : fieldsOf P t = x :: l) : ∃ fs, P.underlying t = some (.struct fs) ∧ fs.toList.map (fun f => (f.type, f.offset)) = x :: l := by
  unfold fieldsOf at h
  split at h
  · exact ⟨_, by assumption, h⟩
  · simp at h
section
variable {H : Type} {enc : TypeId × Value → H} {W : World} {base : Nat} {sp : Nat → Bool} {hd : Bool}

/-- A node whose letters are bytes. -/
def Cc.Byt (x : N) : Prop := (0 ≤ x.head ∧ x.head ≤ 255) ∧ (0 ≤ x.frm ∧ x.frm ≤ 255) ∧ (0 ≤ x.tto ∧ x.tto ≤ 255)
set_option maxHeartbeats 2000000 in
theorem co_open {n : Nat} {cs : List Value} {y : DataW H × List MemPlace} (h : DataW.trod enc Tryd.prog W base sp hd n 29 cs = some y) :
    ∃ x : N, cs = ncell x ∧ Byt x := by
  obtain ⟨fs, hu, hfs⟩ := fields_some coF
  obtain ⟨xs, k, _, rfl, hlen, hxl, hf⟩ := DataW.trod_struct hu h
  rw [show Tryd.prog.cellsOf 29 = 7 by kernel_rfl] at hlen
  have c8 : Tryd.prog.cellsOf 27 = 1 := by kernel_rfl
  have c2 : Tryd.prog.cellsOf 2 = 1 := by kernel_rfl
  have c4 : Tryd.prog.cellsOf 4 = 1 := by kernel_rfl
  have c5 : Tryd.prog.cellsOf 5 = 1 := by kernel_rfl
  have u8 : Tryd.prog.underlying 27 = some (.int .i8) := by kernel_rfl
  have u2 : Tryd.prog.underlying 2 = some (.int .i64) := by kernel_rfl
  have u4 : Tryd.prog.underlying 4 = some .bool := by kernel_rfl
  have u5 : Tryd.prog.underlying 5 = some (.int .u8) := by kernel_rfl
  obtain ⟨fl⟩ := fs
  simp only at hfs
  match fl, hfs with
  | [f0, f1, f2, f3, f4, f5, f6], hfs =>
    simp only [List.map_cons, List.map_nil, List.cons.injEq, Prod.mk.injEq, and_true] at hfs
    obtain ⟨⟨t0, o0⟩, ⟨t1, o1⟩, ⟨t2, o2⟩, ⟨t3, o3⟩, ⟨t4, o4⟩, ⟨t5, o5⟩, ⟨t6, o6⟩⟩ := hfs
    match xs, hxl, cs, hlen with
    | [y0, y1, y2, y3, y4, y5, y6], _, [v0, v1, v2, v3, v4, v5, v6], _ =>
      have g0 := hf 0 f0 rfl
      have g1 := hf 1 f1 rfl
      have g2 := hf 2 f2 rfl
      have g3 := hf 3 f3 rfl
      have g4 := hf 4 f4 rfl
      have g5 := hf 5 f5 rfl
      have g6 := hf 6 f6 rfl
      simp only [t0, o0, c8, t1, o1, c2, t2, o2, c4, t3, o3, c5, t4, o4, t5, o5, t6, o6] at g0 g1 g2 g3 g4 g5 g6
      simp only [List.drop_zero, List.drop_succ_cons, List.take_succ_cons, List.take_zero, List.getElem?_cons_zero, List.getElem?_cons_succ, List.take_nil] at g0 g1 g2 g3 g4 g5 g6
      obtain ⟨i0, h0, _, _⟩ := DataW.trod_int u8 g0
      obtain ⟨i1, h1, _, w1⟩ := DataW.trod_int u2 g1
      obtain ⟨b2, h2, _⟩ := DataW.trod_bool u4 g2
      obtain ⟨i3, h3, _, w3⟩ := DataW.trod_int u5 g3
      obtain ⟨i4, h4, _, w4⟩ := DataW.trod_int u2 g4
      obtain ⟨i5, h5, _, w5⟩ := DataW.trod_int u5 g5
      obtain ⟨i6, h6, _, w6⟩ := DataW.trod_int u5 g6
      cases h0; cases h1; cases h2; cases h3; cases h4; cases h5; cases h6
      exact ⟨⟨i0, i1, b2, i3, i4, i5, i6⟩, rfl, bounds_u8 w3, bounds_u8 w5, bounds_u8 w6⟩

set_option maxHeartbeats 2000000 in
theorem cos_open {fuel : Nat} {v : Value} {d : DataW H} {p : List MemPlace} (h : DataW.trod enc Tryd.prog W base sp hd fuel 22 [v] = some (d, p)) :
    ∃ l : List N, IsCos W v l ∧ (∀ x ∈ l, Byt x) ∧ (l = [] ∨ ∃ N, l.length ≤ N ∧ N * 40 ∈ d.weights Tryd.prog 22) := by
  have ce : Tryd.prog.cellsOf 29 = 7 := by kernel_rfl
  have cb : Tryd.prog.bytesOf 29 = 40 := by kernel_rfl
  rcases Go.Deep.open_slice tyCos h with ⟨hcs, _⟩ | ⟨a, len, cap, m, n, D, Pl, hcs, hb, hl, hm, hmm, hx, hel⟩
  · cases hcs
    exact ⟨[], .inl ⟨rfl, _, _, rfl⟩, by simp, .inl rfl⟩
  · cases hcs
    have hd := (Prod.mk.inj hx).1
    subst hd
    have hlm : len ≤ m := by rw [hmm]; split <;> omega
    rw [ce] at hel
    obtain ⟨X, hX⟩ := Go.Deep.choose_lt (n := len) (α := Option N) (p := fun i o => ∃ x, o = some x ∧ (∀ j, j < 7 → W.cell? ((a.add (i * 7)).add j) = (ncell x)[j]?) ∧ Byt x) (fun i hi => by
      obtain ⟨cs', h1, h2⟩ := hel i (by omega)
      obtain ⟨_, hlen, hcell⟩ := World.cells?_some h1
      obtain ⟨x, rfl, r⟩ := co_open h2
      exact ⟨some x, x, rfl, hcell, r⟩)
    have hget : ∀ j x, ((List.range len).filterMap X)[j]? = some x → j < len ∧ X j = some x := by
      have key : ∀ N, N ≤ len → ((List.range N).filterMap X).length = N ∧ ∀ j x, ((List.range N).filterMap X)[j]? = some x → j < N ∧ X j = some x := by
        intro N
        induction N with
        | zero => intro _; exact ⟨rfl, by simp⟩
        | succ N ih =>
          intro hN
          obtain ⟨e1, e2⟩ := ih (by omega)
          obtain ⟨x, hx, _⟩ := hX N (by omega)
          rw [List.range_succ, List.filterMap_append, show [N].filterMap X = [x] by simp [hx]]
          refine ⟨by simp [e1], fun j y hy => ?_⟩
          by_cases hj : j < N
          · rw [List.getElem?_append_left (by omega)] at hy
            exact ⟨by omega, (e2 j y hy).2⟩
          · have hj2 : j = N := by
              have := (List.getElem?_eq_some_iff.1 hy).1
              simp [e1] at this; omega
            subst hj2
            rw [List.getElem?_append_right (by omega), e1] at hy
            simp at hy
            subst hy
            exact ⟨by omega, hx⟩
      exact (key len (Nat.le_refl _)).2
    have hlen : ((List.range len).filterMap X).length = len := by
      apply Nat.le_antisymm
      · have := List.length_filterMap_le X (List.range len); simpa using this
      · apply Nat.le_of_not_lt
        intro hlt
        have : ∀ N, N ≤ len → ((List.range N).filterMap X).length = N := by
          intro N
          induction N with
          | zero => intro _; rfl
          | succ N ih =>
            intro hN
            obtain ⟨x, hx, _⟩ := hX N (by omega)
            rw [List.range_succ, List.filterMap_append, show [N].filterMap X = [x] by simp [hx]]
            simp [ih (by omega)]
        have := this len (Nat.le_refl _)
        omega
    refine ⟨(List.range len).filterMap X, ?_, ?_, ?_⟩
    · by_cases h0 : len = 0
      · subst h0; exact .inl ⟨rfl, _, _, rfl⟩
      · obtain ⟨b, o, spot⟩ := a
        obtain ⟨x0, _, hc0, _⟩ := hX 0 (by omega)
        have c0 := hc0 0 (by omega)
        have hspot : spot = none := by simpa [Addr.add] using World.cell?_spot c0
        subst hspot
        refine .inr ⟨b, o, cap, by rw [hlen], by rw [hlen]; exact hl, ?_, ?_⟩
        · have key : ∀ (l : List N) (o' : Nat), (∀ k x, l[k]? = some x → ∀ j, j < 7 → W.cell? ⟨b, o' + k * 7 + j, none⟩ = (ncell x)[j]?) → At W b o' l := by
            intro l
            induction l with
            | nil => intro _ _; trivial
            | cons x r ih =>
              intro o' hk
              have hx := hk 0 x rfl
              simp only [Nat.zero_mul, Nat.add_zero] at hx
              refine ⟨⟨hx 0 (by omega), hx 1 (by omega), hx 2 (by omega), hx 3 (by omega), hx 4 (by omega), hx 5 (by omega), hx 6 (by omega)⟩, ih _ fun k y hy j hj => ?_⟩
              have := hk (k + 1) y (by simpa using hy) j hj
              rwa [show o' + (k + 1) * 7 + j = o' + 7 + k * 7 + j by omega] at this
          refine key _ _ fun k x hk j hj => ?_
          obtain ⟨hjl, hXj⟩ := hget k x hk
          obtain ⟨x', e, hc, _⟩ := hX k hjl
          rw [hXj] at e
          cases e
          have := hc j hj
          have ea : ((⟨b, o, none⟩ : Addr).add (k * 7)).add j = ⟨b, o + k * 7 + j, none⟩ := by
            unfold Addr.add
            by_cases hk0 : k * 7 = 0 <;> by_cases hj0 : j = 0 <;> simp [hk0, hj0]
          rwa [ea] at this
        · have := World.block_lt_of_cell? W _ c0
          simpa [Addr.add] using this
    · intro x hx
      obtain ⟨k, hk⟩ := List.getElem?_of_mem hx
      obtain ⟨hjl, hXj⟩ := hget k x hk
      obtain ⟨x', e, _, hB⟩ := hX k hjl
      rw [hXj] at e
      cases e
      exact hB
    · right
      refine ⟨m, by rw [hlen]; exact hlm, ?_⟩
      simp only [DataW.weights, tyCos, cb]
      refine List.mem_cons.2 (.inl ?_)
      simp; omega
end
end Go.Proofs.YtaaokecdmbmgbaaDoor
