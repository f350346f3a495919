/- The statements' own helpers on lists of sites: a list with marks behind it. -/
import Derived.Test.YteaolcfpdhlohaaDoorLbA
namespace Go.Proofs.YteaolcfpdhlohaaDoor
open Go.RowKit
set_option maxRecDepth 100000
set_option linter.unusedSimpArgs false

set_option maxHeartbeats 400000 in
theorem num_any (n i : Int) (hn : 0 ≤ n ∧ n ≤ 100) (hi : 0 ≤ i ∧ i ≤ 4611686018427387904) (w : World) :
    Calls Tryd.prog 29 #[.int .i64 n, .int .i64 i] w fun e w' => e = .returned (.int .i64 (1048576 * n + i + 1)) ∧ w' = w := by
  obtain ⟨h1, h2⟩ := hn
  obtain ⟨h3, h4⟩ := hi
  go_enter Tryd.func29, Tryd.ntmps29
  go_wp2
  go_ret
  exact ⟨rfl, rfl⟩

/-- A mark. -/
def mark (i : Nat) : Lb.Si := ⟨⟨#[]⟩, ⟨#[]⟩, 0, 0, 1048576 * 9 + (i : Int) + 1⟩
/-- What WideSites lays at a place. -/
def wdS (l : List Lb.Si) (i : Nat) : Lb.Si := (l[i]?).getD (mark i)
theorem wdS_in {l : List Lb.Si} {i : Nat} {x : Lb.Si} (h : l[i]? = some x) : wdS l i = x := by unfold wdS; rw [h]; rfl
theorem wdS_out {l : List Lb.Si} {i : Nat} (h : l.length ≤ i) : wdS l i = mark i := by unfold wdS; rw [List.getElem?_eq_none h]; rfl

theorem set_facts {w : World} {g : Nat} {cur : Array Value} {T : TypeId} (h : w.heap[g]? = some (.cells cur T (0, 0))) {k : Nat} (hk : k < cur.size) (x : Value) : ∃ cur', (w.setCell ⟨g, k, none⟩ x).heap[g]? = some (.cells cur' T (0, 0)) ∧ cur'.size = cur.size ∧ cur'[k]? = some x ∧ ∀ j, j ≠ k → cur'[j]? = cur[j]? := by
  refine ⟨cur.setIfInBounds k x, by simp [World.setCell, Array.getElem?_modify, h], by simp, by simp [hk], fun j hj => by rw [Array.getElem?_setIfInBounds_ne (Ne.symm hj)]⟩
/-- Five cells, one behind the other. -/
def put5 (w : World) (g o : Nat) (x : Lb.Si) : World :=
  ((((w.setCell ⟨g, o, none⟩ (.string x.m)).setCell ⟨g, o + 1, none⟩ (.string x.e)).setCell ⟨g, o + 2, none⟩ (.int .i64 x.ln)).setCell ⟨g, o + 3, none⟩ (.int .i64 x.co)).setCell ⟨g, o + 4, none⟩ (.int .i64 x.ru)
theorem put5_facts {w : World} {g : Nat} {cur : Array Value} {T : TypeId} (h : w.heap[g]? = some (.cells cur T (0, 0))) {o : Nat} (ho : o + 5 ≤ cur.size) (x : Lb.Si) :
    ∃ cur', (put5 w g o x).heap[g]? = some (.cells cur' T (0, 0)) ∧ cur'.size = cur.size ∧ (∀ i u, (Lb.scells x)[i]? = some u → cur'[o + i]? = some u) ∧ ∀ j, (j < o ∨ o + 5 ≤ j) → cur'[j]? = cur[j]? := by
  obtain ⟨c1, a1, b1, e1, f1⟩ := set_facts h (k := o) (by omega) (.string x.m)
  obtain ⟨c2, a2, b2, e2, f2⟩ := set_facts a1 (k := o + 1) (by omega) (.string x.e)
  obtain ⟨c3, a3, b3, e3, f3⟩ := set_facts a2 (k := o + 2) (by omega) (.int .i64 x.ln)
  obtain ⟨c4, a4, b4, e4, f4⟩ := set_facts a3 (k := o + 3) (by omega) (.int .i64 x.co)
  obtain ⟨c5, a5, b5, e5, f5⟩ := set_facts a4 (k := o + 4) (by omega) (.int .i64 x.ru)
  refine ⟨c5, a5, by omega, fun i u hu => ?_, fun j hj => ?_⟩
  · have hi : i < 5 := by have := (List.getElem?_eq_some_iff.1 hu).1; simpa [Lb.scells] using this
    obtain rfl | rfl | rfl | rfl | rfl : i = 0 ∨ i = 1 ∨ i = 2 ∨ i = 3 ∨ i = 4 := by omega
    · rw [f5 _ (by omega), f4 _ (by omega), f3 _ (by omega), f2 _ (by omega)]; rw [Nat.add_zero, e1]; exact hu
    · rw [f5 _ (by omega), f4 _ (by omega), f3 _ (by omega), e2]; exact hu
    · rw [f5 _ (by omega), f4 _ (by omega), e3]; exact hu
    · rw [f5 _ (by omega), e4]; exact hu
    · rw [e5]; exact hu
  · rw [f5 _ (by omega), f4 _ (by omega), f3 _ (by omega), f2 _ (by omega), f1 _ (by omega)]
theorem put5_below {a w : World} {B g o : Nat} (h : Below B a w) (hg : B ≤ g) (x : Lb.Si) : Below B a (put5 w g o x) :=
  ((((h.setCell hg _).setCell hg _).setCell hg _).setCell hg _).setCell hg _
theorem cells5 {cur : Array Value} {o : Nat} (ho : o + 5 ≤ cur.size) : ∃ u0 u1 u2 u3 u4, cur[o]? = some u0 ∧ cur[o + 1]? = some u1 ∧ cur[o + 2]? = some u2 ∧ cur[o + 3]? = some u3 ∧ cur[o + 4]? = some u4 :=
  ⟨_, _, _, _, _, Array.getElem?_eq_getElem (by omega), Array.getElem?_eq_getElem (by omega), Array.getElem?_eq_getElem (by omega), Array.getElem?_eq_getElem (by omega), Array.getElem?_eq_getElem (by omega)⟩

/-- A list with its marks behind it, in block g. -/
def Wide (w : World) (g : Nat) (l : List Lb.Si) : Prop :=
  ∃ cur, w.heap[g]? = some (.cells cur 31 (0, 0)) ∧ cur.size = (l.length + 64) * 5 ∧ ∀ j, j < l.length + 64 → ∀ i u, (Lb.scells (wdS l j))[i]? = some u → cur[j * 5 + i]? = some u
theorem Wide.lt {w : World} {g : Nat} {l : List Lb.Si} (h : Wide w g l) : g < w.heap.size := by
  obtain ⟨cur, h, _⟩ := h; exact (Array.getElem?_eq_some_iff.1 h).1
theorem Wide.below {w w' : World} {g : Nat} {l : List Lb.Si} (h : Wide w g l) (hB : Below w.heap.size w w') : Wide w' g l := by
  have := h.lt
  obtain ⟨cur, h1, h2, h3⟩ := h
  exact ⟨cur, by rw [hB.block g this]; exact h1, h2, h3⟩
theorem Wide.cells {w : World} {g : Nat} {l : List Lb.Si} (h : Wide w g l) {j : Nat} (hj : j < l.length + 64) : ∀ i u, (Lb.scells (wdS l j))[i]? = some u → w.cell? ⟨g, j * 5 + i, none⟩ = some u := by
  intro i u hu
  obtain ⟨cur, h1, h2, h3⟩ := h
  rw [(block_cells h1).1]
  exact h3 j hj i u hu
theorem Wide.sites {w : World} {g : Nat} {l : List Lb.Si} (h : Wide w g l) : IsSites w (.slice (some ⟨g, 0, none⟩) l.length (l.length + 64)) l := by
  refine .inr ⟨g, 0, _, rfl, by omega, h.lt, fun j x hx i u hu => ?_⟩
  have hj : j < l.length := (List.getElem?_eq_some_iff.1 hx).1
  rw [Nat.zero_add]
  exact h.cells (j := j) (by omega) i u (by rw [wdS_in hx]; exact hu)

set_option maxHeartbeats 4000000 in
theorem wideSites_any (l : List Lb.Si) (hl4 : l.length ≤ 2147483647) (v : Value) (w : World) (hl : IsSites w v l) :
    Calls Tryd.prog 8 #[v] w fun e w' => e = .returned (.slice (some ⟨w.heap.size, 0, none⟩) l.length (l.length + 64)) ∧ Wide w' w.heap.size l ∧ Below w.heap.size w w' := by
  obtain ⟨i0, hi, hz0, hz1, hz2⟩ := info_parts infoS
  obtain ⟨a, c, rfl⟩ := hl.form
  go_enter Tryd.func8, Tryd.ntmps8
  go_wp2_with (at_make; refine wpList_make_full _ rfl _ _ 22 rfl w.heap.size 31 i0 _ 5 tySites hi hz0 hz1 _ _ _ _ (l.length + 64) rfl rfl (by go_num) (by go_num) (by rw [hz2]; omega) (by unfold maxLen; omega) (Nat.le_refl _) ?_; intro w1 hown1 hg1)
  obtain ⟨cur0, hc0, hs0⟩ : ∃ cur, w1.heap[w.heap.size]? = some (.cells cur 31 (0, 0)) ∧ cur.size = (l.length + 64) * 5 := by
    obtain ⟨_, ⟨h, _⟩ | ⟨g, cap, cur, h, _, hh, _, _, hs, _⟩⟩ := hown1
    · cases h
    · cases h; exact ⟨cur, hh, by omega⟩
  have hB1 : Below w.heap.size w w1 := ⟨hg1.os, hg1.tape, hg1.output, hg1.size, fun k hk => hg1.block k hk (by simp)⟩
  clear hown1 hg1
  go_loopg [4] (l.length + 64) (fun m cv wr => ∃ (k : Nat) (cur : Array Value), k + m = l.length + 64 ∧ cv = .int .i64 (k : Int) ∧ wr.heap[w.heap.size]? = some (.cells cur 31 (0, 0)) ∧ cur.size = (l.length + 64) * 5 ∧ Aside (∀ j, j < k → ∀ i u, (Lb.scells (wdS l j))[i]? = some u → cur[j * 5 + i]? = some u) ∧ Below w.heap.size w wr)
  case atStart => exact ⟨0, cur0, by omega, rfl, hc0, hs0, fun j hj => absurd hj (by omega), hB1⟩
  case round =>
    clear hc0 hs0 hB1
    obtain ⟨k, cur, hkg, rfl, hcur, hcs, HJ, hB⟩ := hrel
    have hgl : w.heap.size < wr.heap.size := (Array.getElem?_eq_some_iff.1 hcur).1
    have hk0 : (0 : Int) ≤ (k : Int) := by omega
    by_cases hk : k < l.length + 64
    · have hk2 : (k : Int) < (l.length : Int) + 64 := by omega
      have hfz : ∀ o, wr.frozen? ⟨w.heap.size, o, none⟩ = false := (block_cells hcur).2
      have hbc := (block_cells hcur).1
      obtain ⟨u0, u1, u2, u3, u4, x0, x1, x2, x3, x4⟩ := cells5 (cur := cur) (o := k * 5) (by omega)
      have y0 := (hbc (k * 5)).trans x0
      have y1 := (hbc (k * 5 + 1)).trans x1
      have y2 := (hbc (k * 5 + 2)).trans x2
      have y3 := (hbc (k * 5 + 3)).trans x3
      have y4 := (hbc (k * 5 + 4)).trans x4
      obtain ⟨cur', e1, e2, e3, e4⟩ := put5_facts hcur (o := k * 5) (by omega) (wdS l k)
      have HS : Aside (∃ cur', (put5 wr w.heap.size (k * 5) (wdS l k)).heap[w.heap.size]? = some (.cells cur' 31 (0, 0)) ∧ cur'.size = (l.length + 64) * 5 ∧ ∀ j, j < k + 1 → ∀ i u, (Lb.scells (wdS l j))[i]? = some u → cur'[j * 5 + i]? = some u) := by
        refine ⟨cur', e1, by omega, fun j hj i u hu => ?_⟩
        have hi8 : i < 5 := by have := (List.getElem?_eq_some_iff.1 hu).1; simpa [Lb.scells] using this
        by_cases h : j = k
        · subst h; exact e3 i u hu
        · rw [e4 _ (by omega)]; exact HJ.out j (by omega) i u hu
      have HB : Aside (Below w.heap.size w (put5 wr w.heap.size (k * 5) (wdS l k))) := put5_below hB (Nat.le_refl _) _
      clear e1 e2 e3 e4 hbc x0 x1 x2 x3 x4 HJ
      by_cases hkl : k < l.length
      · have hkl' : (k : Int) < (l.length : Int) := by omega
        obtain ⟨x, hx, _⟩ := getc hkl
        obtain ⟨b1, o1, rfl, hlc, hb1, hcx⟩ := (hl.below hB).at hx
        obtain ⟨p0, p1, p2, p3, p4⟩ := agg_cells (o := o1 + k * 5) hcx
        rw [wdS_in hx] at HS HB
        clear hcx hl hx
        go_wp2_with fail
        go_roundg (gk - 1)
        case measure => omega
        case rel =>
          obtain ⟨c', q1, q2, q3⟩ := HS.out
          exact ⟨k + 1, c', by omega, by go_num, q1, q2, q3, HB.out⟩
      · have hkl' : decide ((k : Int) < (l.length : Int)) = false := by simp; omega
        rw [wdS_out (by omega)] at HS HB
        clear hl
        go_wp2_with (go_at_call 29; refine (num_any _ _ (by omega) (by omega) _).mono ?_; rintro e w' ⟨rfl, hw'⟩; replace hw' := hw'.symm; subst hw')
        go_roundg (gk - 1)
        case measure => omega
        case rel =>
          obtain ⟨c', q1, q2, q3⟩ := HS.out
          exact ⟨k + 1, c', by omega, by go_num, q1, q2, q3, HB.out⟩
    · have hk2 : decide ((k : Int) < (l.length : Int) + 64) = false := by simp; omega
      have hn2 : (l.length : Int) ≤ (l.length : Int) + 64 := by omega
      clear hl
      go_wp2_with fail
      go_ret
      exact ⟨rfl, ⟨cur, hcur, hcs, fun j hj => HJ.out j (by omega)⟩, hB⟩
end Go.Proofs.YteaolcfpdhlohaaDoor
