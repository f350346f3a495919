/- The statements' own helpers on lists of nodes: how much there is, a list with marks behind it, likeness, the marks. -/
import Derived.Test.YtpikfdkgblghhaaGreatDoorXaz
namespace Go.Proofs.YtpikfdkgblghhaaGreatDoor
open Go.RowKit
set_option maxRecDepth 100000
set_option linter.unusedSimpArgs false

set_option maxHeartbeats 400000 in
theorem num_any (n i : Int) (hn : 0 ≤ n ∧ n ≤ 100) (hi : 0 ≤ i ∧ i ≤ 4611686018427387904) (w : World) :
    Calls Tryz.prog 24 #[.int .i64 n, .int .i64 i] w fun e w' => e = .returned (.int .i64 (1048576 * n + i + 1)) ∧ w' = w := by
  obtain ⟨h1, h2⟩ := hn
  obtain ⟨h3, h4⟩ := hi
  go_enter Tryz.func24, Tryz.ntmps24
  go_wp2
  go_ret
  exact ⟨rfl, rfl⟩

def nd (kind kids n : Int) (s t u : List UInt8) : Tr.Nd := ⟨kind, kids, n, S s, S t, S u, 0, 0⟩
/-- A mark. -/
def mark (i : Nat) : Tr.Nd := nd 0 (1048576 * 9 + (i : Int) + 1) 0 [] [] []
/-- What WideNodes lays at a place. -/
def wdN (l : List Tr.Nd) (i : Nat) : Tr.Nd := (l[i]?).getD (mark i)
theorem wdN_in {l : List Tr.Nd} {i : Nat} {x : Tr.Nd} (h : l[i]? = some x) : wdN l i = x := by unfold wdN; rw [h]; rfl
theorem wdN_out {l : List Tr.Nd} {i : Nat} (h : l.length ≤ i) : wdN l i = mark i := by unfold wdN; rw [List.getElem?_eq_none h]; rfl

theorem set_facts {w : World} {g : Nat} {cur : Array Value} {T : TypeId} (h : w.heap[g]? = some (.cells cur T (0, 0))) {k : Nat} (hk : k < cur.size) (x : Value) : ∃ cur', (w.setCell ⟨g, k, none⟩ x).heap[g]? = some (.cells cur' T (0, 0)) ∧ cur'.size = cur.size ∧ cur'[k]? = some x ∧ ∀ j, j ≠ k → cur'[j]? = cur[j]? := by
  refine ⟨cur.setIfInBounds k x, by simp [World.setCell, Array.getElem?_modify, h], by simp, by simp [hk], fun j hj => by rw [Array.getElem?_setIfInBounds_ne (Ne.symm hj)]⟩
/-- Eight cells, one behind the other. -/
def put8 (w : World) (g o : Nat) (x : Tr.Nd) : World :=
  (((((((w.setCell ⟨g, o, none⟩ (.int .i8 x.kind)).setCell ⟨g, o + 1, none⟩ (.int .i64 x.kids)).setCell ⟨g, o + 2, none⟩ (.int .i64 x.n)).setCell ⟨g, o + 3, none⟩ (.string x.s)).setCell ⟨g, o + 4, none⟩ (.string x.t)).setCell ⟨g, o + 5, none⟩ (.string x.u)).setCell ⟨g, o + 6, none⟩ (.int .i64 x.ln)).setCell ⟨g, o + 7, none⟩ (.int .i64 x.co)
theorem put8_facts {w : World} {g : Nat} {cur : Array Value} {T : TypeId} (h : w.heap[g]? = some (.cells cur T (0, 0))) {o : Nat} (ho : o + 8 ≤ cur.size) (x : Tr.Nd) :
    ∃ cur', (put8 w g o x).heap[g]? = some (.cells cur' T (0, 0)) ∧ cur'.size = cur.size ∧ (∀ i u, (Tr.ncells x)[i]? = some u → cur'[o + i]? = some u) ∧ ∀ j, (j < o ∨ o + 8 ≤ j) → cur'[j]? = cur[j]? := by
  obtain ⟨c1, a1, b1, e1, f1⟩ := set_facts h (k := o) (by omega) (.int .i8 x.kind)
  obtain ⟨c2, a2, b2, e2, f2⟩ := set_facts a1 (k := o + 1) (by omega) (.int .i64 x.kids)
  obtain ⟨c3, a3, b3, e3, f3⟩ := set_facts a2 (k := o + 2) (by omega) (.int .i64 x.n)
  obtain ⟨c4, a4, b4, e4, f4⟩ := set_facts a3 (k := o + 3) (by omega) (.string x.s)
  obtain ⟨c5, a5, b5, e5, f5⟩ := set_facts a4 (k := o + 4) (by omega) (.string x.t)
  obtain ⟨c6, a6, b6, e6, f6⟩ := set_facts a5 (k := o + 5) (by omega) (.string x.u)
  obtain ⟨c7, a7, b7, e7, f7⟩ := set_facts a6 (k := o + 6) (by omega) (.int .i64 x.ln)
  obtain ⟨c8, a8, b8, e8, f8⟩ := set_facts a7 (k := o + 7) (by omega) (.int .i64 x.co)
  refine ⟨c8, a8, by omega, fun i u hu => ?_, fun j hj => ?_⟩
  · have hi : i < 8 := by have := (List.getElem?_eq_some_iff.1 hu).1; simpa [Tr.ncells] using this
    obtain rfl | rfl | rfl | rfl | rfl | rfl | rfl | rfl : i = 0 ∨ i = 1 ∨ i = 2 ∨ i = 3 ∨ i = 4 ∨ i = 5 ∨ i = 6 ∨ i = 7 := by omega
    · rw [f8 _ (by omega), f7 _ (by omega), f6 _ (by omega), f5 _ (by omega), f4 _ (by omega), f3 _ (by omega), f2 _ (by omega)]; rw [Nat.add_zero, e1]; exact hu
    · rw [f8 _ (by omega), f7 _ (by omega), f6 _ (by omega), f5 _ (by omega), f4 _ (by omega), f3 _ (by omega), e2]; exact hu
    · rw [f8 _ (by omega), f7 _ (by omega), f6 _ (by omega), f5 _ (by omega), f4 _ (by omega), e3]; exact hu
    · rw [f8 _ (by omega), f7 _ (by omega), f6 _ (by omega), f5 _ (by omega), e4]; exact hu
    · rw [f8 _ (by omega), f7 _ (by omega), f6 _ (by omega), e5]; exact hu
    · rw [f8 _ (by omega), f7 _ (by omega), e6]; exact hu
    · rw [f8 _ (by omega), e7]; exact hu
    · rw [e8]; exact hu
  · rw [f8 _ (by omega), f7 _ (by omega), f6 _ (by omega), f5 _ (by omega), f4 _ (by omega), f3 _ (by omega), f2 _ (by omega), f1 _ (by omega)]
theorem put8_below {a w : World} {B g o : Nat} (h : Below B a w) (hg : B ≤ g) (x : Tr.Nd) : Below B a (put8 w g o x) :=
  (((((((h.setCell hg _).setCell hg _).setCell hg _).setCell hg _).setCell hg _).setCell hg _).setCell hg _).setCell hg _
theorem cells8 {cur : Array Value} {o : Nat} (ho : o + 8 ≤ cur.size) : ∃ u0 u1 u2 u3 u4 u5 u6 u7, cur[o]? = some u0 ∧ cur[o + 1]? = some u1 ∧ cur[o + 2]? = some u2 ∧ cur[o + 3]? = some u3 ∧ cur[o + 4]? = some u4 ∧ cur[o + 5]? = some u5 ∧ cur[o + 6]? = some u6 ∧ cur[o + 7]? = some u7 :=
  ⟨_, _, _, _, _, _, _, _, Array.getElem?_eq_getElem (by omega), Array.getElem?_eq_getElem (by omega), Array.getElem?_eq_getElem (by omega), Array.getElem?_eq_getElem (by omega), Array.getElem?_eq_getElem (by omega), Array.getElem?_eq_getElem (by omega), Array.getElem?_eq_getElem (by omega), Array.getElem?_eq_getElem (by omega)⟩

/-- A list with its marks behind it, in block g. -/
def Wide (w : World) (g : Nat) (l : List Tr.Nd) : Prop :=
  ∃ cur, w.heap[g]? = some (.cells cur 52 (0, 0)) ∧ cur.size = (l.length + 64) * 8 ∧ ∀ j, j < l.length + 64 → ∀ i u, (Tr.ncells (wdN l j))[i]? = some u → cur[j * 8 + i]? = some u
theorem Wide.lt {w : World} {g : Nat} {l : List Tr.Nd} (h : Wide w g l) : g < w.heap.size := by
  obtain ⟨cur, h, _⟩ := h; exact (Array.getElem?_eq_some_iff.1 h).1
theorem Wide.below {w w' : World} {g : Nat} {l : List Tr.Nd} (h : Wide w g l) (hB : Below w.heap.size w w') : Wide w' g l := by
  have := h.lt
  obtain ⟨cur, h1, h2, h3⟩ := h
  exact ⟨cur, by rw [hB.block g this]; exact h1, h2, h3⟩
theorem Wide.cells {w : World} {g : Nat} {l : List Tr.Nd} (h : Wide w g l) {j : Nat} (hj : j < l.length + 64) : ∀ i u, (Tr.ncells (wdN l j))[i]? = some u → w.cell? ⟨g, j * 8 + i, none⟩ = some u := by
  intro i u hu
  obtain ⟨cur, h1, h2, h3⟩ := h
  rw [(block_cells h1).1]
  exact h3 j hj i u hu
theorem Wide.nodes {w : World} {g : Nat} {l : List Tr.Nd} (h : Wide w g l) : IsNodes w (.slice (some ⟨g, 0, none⟩) l.length (l.length + 64)) l := by
  refine .inr ⟨g, 0, _, rfl, by omega, h.lt, fun j x hx i u hu => ?_⟩
  have hj : j < l.length := (List.getElem?_eq_some_iff.1 hx).1
  rw [Nat.zero_add]
  exact h.cells (j := j) (by omega) i u (by rw [wdN_in hx]; exact hu)

set_option maxHeartbeats 4000000 in
theorem wideNodes_any (l : List Tr.Nd) (hl4 : l.length ≤ 2147483647) (v : Value) (w : World) (hl : IsNodes w v l) :
    Calls Tryz.prog 8 #[v] w fun e w' => e = .returned (.slice (some ⟨w.heap.size, 0, none⟩) l.length (l.length + 64)) ∧ Wide w' w.heap.size l ∧ Below w.heap.size w w' := by
  obtain ⟨i0, hi, hz0, hz1, hz2⟩ := info_parts infoN
  obtain ⟨a, c, rfl⟩ := hl.form
  go_enter Tryz.func8, Tryz.ntmps8
  go_wp2_with (at_make; refine wpList_make_full _ rfl _ _ 22 rfl w.heap.size 52 i0 _ 8 tyNodes hi hz0 hz1 _ _ _ _ (l.length + 64) rfl rfl (by go_num) (by go_num) (by rw [hz2]; omega) (by unfold maxLen; omega) (Nat.le_refl _) ?_; intro w1 hown1 hg1)
  obtain ⟨cur0, hc0, hs0⟩ : ∃ cur, w1.heap[w.heap.size]? = some (.cells cur 52 (0, 0)) ∧ cur.size = (l.length + 64) * 8 := by
    obtain ⟨_, ⟨h, _⟩ | ⟨g, cap, cur, h, _, hh, _, _, hs, _⟩⟩ := hown1
    · cases h
    · cases h; exact ⟨cur, hh, by omega⟩
  have hB1 : Below w.heap.size w w1 := ⟨hg1.os, hg1.tape, hg1.output, hg1.size, fun k hk => hg1.block k hk (by simp)⟩
  clear hown1 hg1
  go_loopg [4] (l.length + 64) (fun m cv wr => ∃ (k : Nat) (cur : Array Value), k + m = l.length + 64 ∧ cv = .int .i64 (k : Int) ∧ wr.heap[w.heap.size]? = some (.cells cur 52 (0, 0)) ∧ cur.size = (l.length + 64) * 8 ∧ Aside (∀ j, j < k → ∀ i u, (Tr.ncells (wdN l j))[i]? = some u → cur[j * 8 + i]? = some u) ∧ Below w.heap.size w wr)
  case atStart => exact ⟨0, cur0, by omega, rfl, hc0, hs0, fun j hj => absurd hj (by omega), hB1⟩
  case round =>
    clear hc0 hs0 hB1
    obtain ⟨k, cur, hkg, rfl, hcur, hcs, HJ, hB⟩ := hrel
    have hgl : w.heap.size < wr.heap.size := (Array.getElem?_eq_some_iff.1 hcur).1
    have hk0 : (0 : Int) ≤ (k : Int) := by omega
    by_cases hk : k < l.length + 64
    · have hk2 : (k : Int) < (l.length : Int) + 64 := by omega
      have hfz : ∀ o, wr.frozen? ⟨w.heap.size, o, none⟩ = false := (block_cells hcur).2
      have hbc := (block_cells hcur).1
      obtain ⟨u0, u1, u2, u3, u4, u5, u6, u7, x0, x1, x2, x3, x4, x5, x6, x7⟩ := cells8 (cur := cur) (o := k * 8) (by omega)
      have y0 := (hbc (k * 8)).trans x0
      have y1 := (hbc (k * 8 + 1)).trans x1
      have y2 := (hbc (k * 8 + 2)).trans x2
      have y3 := (hbc (k * 8 + 3)).trans x3
      have y4 := (hbc (k * 8 + 4)).trans x4
      have y5 := (hbc (k * 8 + 5)).trans x5
      have y6 := (hbc (k * 8 + 6)).trans x6
      have y7 := (hbc (k * 8 + 7)).trans x7
      obtain ⟨cur', e1, e2, e3, e4⟩ := put8_facts hcur (o := k * 8) (by omega) (wdN l k)
      have HS : Aside (∃ cur', (put8 wr w.heap.size (k * 8) (wdN l k)).heap[w.heap.size]? = some (.cells cur' 52 (0, 0)) ∧ cur'.size = (l.length + 64) * 8 ∧ ∀ j, j < k + 1 → ∀ i u, (Tr.ncells (wdN l j))[i]? = some u → cur'[j * 8 + i]? = some u) := by
        refine ⟨cur', e1, by omega, fun j hj i u hu => ?_⟩
        have hi8 : i < 8 := by have := (List.getElem?_eq_some_iff.1 hu).1; simpa [Tr.ncells] using this
        by_cases h : j = k
        · subst h; exact e3 i u hu
        · rw [e4 _ (by omega)]; exact HJ.out j (by omega) i u hu
      have HB : Aside (Below w.heap.size w (put8 wr w.heap.size (k * 8) (wdN l k))) := put8_below hB (Nat.le_refl _) _
      clear e1 e2 e3 e4 hbc x0 x1 x2 x3 x4 x5 x6 x7 HJ
      by_cases hkl : k < l.length
      · have hkl' : (k : Int) < (l.length : Int) := by omega
        obtain ⟨x, hx, _⟩ := getc hkl
        obtain ⟨b1, o1, rfl, hlc, hb1, hcx⟩ := (hl.below hB).at hx
        obtain ⟨p0, p1, p2, p3, p4, p5, p6, p7⟩ := agg_cells (o := o1 + k * 8) hcx
        rw [wdN_in hx] at HS HB
        clear hcx hl hx
        go_wp2_with fail
        go_roundg (gk - 1)
        case measure => omega
        case rel =>
          obtain ⟨c', q1, q2, q3⟩ := HS.out
          exact ⟨k + 1, c', by omega, by go_num, q1, q2, q3, HB.out⟩
      · have hkl' : decide ((k : Int) < (l.length : Int)) = false := by simp; omega
        rw [wdN_out (by omega)] at HS HB
        clear hl
        go_wp2_with (go_at_call 24; refine (num_any _ _ (by omega) (by omega) _).mono ?_; rintro e w' ⟨rfl, hw'⟩; replace hw' := hw'.symm; subst hw')
        go_roundg (gk - 1)
        case measure => omega
        case rel =>
          obtain ⟨c', q1, q2, q3⟩ := HS.out
          exact ⟨k + 1, c', by omega, by go_num, q1, q2, q3, HB.out⟩
    · have hk2 : decide ((k : Int) < (l.length : Int) + 64) = false := by simp; omega
      have hn2 : (l.length : Int) ≤ (l.length : Int) + 64 := by omega
      clear hl
      go_wp2_with fail
      go_ret
      exact ⟨rfl, ⟨cur, hcur, hcs, fun j hj => HJ.out j (by omega)⟩, hB⟩
end Go.Proofs.YtpikfdkgblghhaaGreatDoor
