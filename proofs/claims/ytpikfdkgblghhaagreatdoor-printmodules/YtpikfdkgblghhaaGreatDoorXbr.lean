/- The statements' own helpers on lists of defs: a list with marks behind it, likeness, the marks. -/
import Derived.Test.YtpikfdkgblghhaaGreatDoorXbq
namespace Go.Proofs.YtpikfdkgblghhaaGreatDoor
open Go.RowKit
set_option maxRecDepth 100000
set_option linter.unusedSimpArgs false

def dmark (i : Nat) : List Value := dfcells ⟨Tb.mk 9 i, false, ⟨#[]⟩, [], 0, 0⟩ (.slice none 0 0)
def RDf (g : Nat) (w : World) (x : Df) (cs : List Value) : Prop := ∃ gt, g < gt ∧ cs = dfcells x (.slice (some ⟨gt, 0, none⟩) x.tree.length (x.tree.length + 64)) ∧ Wide w gt x.tree
def WideD : World → Nat → List Df → Prop := WideOf 6 54 RDf dmark
theorem Wide.keep {w w' : World} {g : Nat} {l : List Tr.Nd} (h : Wide w g l) (hg : w'.heap[g]? = w.heap[g]?) : Wide w' g l := by
  obtain ⟨cur, h1, h2, h3⟩ := h
  exact ⟨cur, hg.trans h1, h2, h3⟩
theorem RDf.keep {g : Nat} {w w' : World} {x : Df} {cs : List Value} (h : RDf g w x cs) (hA : ∀ k, g < k → k < w.heap.size → w'.heap[k]? = w.heap[k]?) : RDf g w' x cs := by
  obtain ⟨gt, h1, h2, h3⟩ := h
  exact ⟨gt, h1, h2, h3.keep (hA gt h1 h3.lt)⟩
theorem WideD.lt {w : World} {g : Nat} {l : List Df} (h : WideD w g l) : g < w.heap.size := WideOf.lt h
theorem WideD.keep {w w' : World} {g : Nat} {l : List Df} (h : WideD w g l) (hA : ∀ k, g ≤ k → k < w.heap.size → w'.heap[k]? = w.heap[k]?) : WideD w' g l :=
  WideOf.keep h (hA g (Nat.le_refl _) h.lt) fun _ _ _ r => r.keep fun k h1 h2 => hA k (Nat.le_of_lt h1) h2
theorem WideD.below {w w' : World} {g : Nat} {l : List Df} (h : WideD w g l) (hB : Below w.heap.size w w') : WideD w' g l := h.keep fun k _ h2 => hB.block k h2
theorem WideD.defs {w : World} {g : Nat} {l : List Df} (h : WideD w g l) : IsDefs w (.slice (some ⟨g, 0, none⟩) l.length (l.length + 64)) l := WideOf.row h fun _ _ ⟨_, _, r1, r2⟩ => ⟨_, r1, r2.nodes⟩
/-- One of them. -/
theorem WideD.one {w : World} {g : Nat} {l : List Df} (h : WideD w g l) {k : Nat} {x : Df} (hx : l[k]? = some x) : ∃ gt, Wide w gt x.tree ∧ w.cell? ⟨g, k * 6, none⟩ = some (.string x.name) ∧ w.cell? ⟨g, k * 6 + 1, none⟩ = some (.bool x.exp) ∧ w.cell? ⟨g, k * 6 + 2, none⟩ = some (.string x.t) ∧ w.cell? ⟨g, k * 6 + 3, none⟩ = some (.slice (some ⟨gt, 0, none⟩) x.tree.length (x.tree.length + 64)) ∧ w.cell? ⟨g, k * 6 + 4, none⟩ = some (.int .i64 x.ln) ∧ w.cell? ⟨g, k * 6 + 5, none⟩ = some (.int .i64 x.co) := by
  obtain ⟨cur, h1, h2, h3, h4⟩ := h
  obtain ⟨cs, ⟨gt, r1, rfl, r3⟩, r4⟩ := h3 k x hx
  have hb := (block_cells h1).1
  exact ⟨gt, r3, (hb _).trans (r4 0 _ rfl), (hb _).trans (r4 1 _ rfl), (hb _).trans (r4 2 _ rfl), (hb _).trans (r4 3 _ rfl), (hb _).trans (r4 4 _ rfl), (hb _).trans (r4 5 _ rfl)⟩
theorem set_ne {w : World} {b o k : Nat} {u : Value} (h : b ≠ k) : (w.setCell ⟨b, o, none⟩ u).heap[k]? = w.heap[k]? := Below.heap_setCell _ _ _ _ (by simpa using Ne.symm h)
theorem tyDefs : Tryz.prog.underlying 55 = some (.slice 54) := by kernel_rfl
theorem infoD : (Tryz.prog.info? 54).map (fun i => (i.zero, i.size, i.bytes)) = some (some (.agg #[.string ⟨#[]⟩, .bool false, .string ⟨#[]⟩, .slice none 0 0, .int .i64 0, .int .i64 0]), 6, 80) := by kernel_rfl

set_option maxHeartbeats 400000 in
theorem wideDef_any (s0 s2 : ByteArray) (b1 : Bool) (l : List Tr.Nd) (i4 i5 : Int) (hl4 : l.length ≤ 2147483647) (a : Option Addr) (c : Nat) (w : World) (hl : IsNodes w (.slice a l.length c) l) :
    Calls Tryz.prog 113 #[.agg #[.string s0, .bool b1, .string s2, .slice a l.length c, .int .i64 i4, .int .i64 i5]] w fun e w' => ∃ gt, e = .returned (.agg #[.string s0, .bool b1, .string s2, .slice (some ⟨gt, 0, none⟩) l.length (l.length + 64), .int .i64 i4, .int .i64 i5]) ∧ Wide w' gt l ∧ w.heap.size ≤ gt ∧ Below w.heap.size w w' := by
  have hB0 : ∀ o1 o2, Below w.heap.size w ((w.alloc o1).alloc o2) := fun o1 o2 => ((Below.refl _ _).alloc (Nat.le_refl _) o1).alloc (by simp) o2
  have hw := fun o1 o2 => wideNodes_any l hl4 _ _ (hl.below (hB0 o1 o2))
  have HB : Aside (∀ o1 o2 W, Below ((w.alloc o1).alloc o2).heap.size ((w.alloc o1).alloc o2) W → W.heap[w.heap.size]? = some o1 ∧ W.heap[w.heap.size + 1]? = some o2 ∧ Below w.heap.size w W) := fun o1 o2 W h =>
    ⟨(h.block w.heap.size (by simp; omega)).trans ((Below.heap_alloc _ _ _ (by simp)).trans (heap_alloc_new _ _)), (h.block (w.heap.size + 1) (by simp)).trans (by have := heap_alloc_new (w.alloc o1) o2; simpa using this), (hB0 o1 o2).trans (h.mono (by simp; omega))⟩
  have HSZ : Aside (∀ o1 o2, ((w.alloc o1).alloc o2).heap.size = w.heap.size + 1 + 1) := fun o1 o2 => by simp
  clear hl
  go_enter Tryz.func113, Tryz.ntmps113
  go_wp2_with (go_at_call 8; refine (hw _ _).mono ?_; rintro e w3 ⟨rfl, hW3, hB3⟩; obtain ⟨k1, k2, hA3⟩ := HB.out _ _ _ hB3; have f1 := (block_cells k1).2; have f2 := (block_cells k2).2; have c0 := (block_cells k1).1 0; have c1 := (block_cells k1).1 1; have c2 := (block_cells k1).1 2; have c3 := (block_cells k1).1 3; have c4 := (block_cells k1).1 4; have c5 := (block_cells k1).1 5; have d0 := (block_cells k2).1 0; have d1 := (block_cells k2).1 1; have d2 := (block_cells k2).1 2; have d3 := (block_cells k2).1 3; have d4 := (block_cells k2).1 4; have d5 := (block_cells k2).1 5; clear k1 k2 hB3 hw HB hB0)
  have hW4 : Wide w3 (w.heap.size + 1 + 1) l := by rw [HSZ.out] at hW3; exact hW3
  clear hW3
  try simp only [Exit.inBlock, Exit.then]
  refine bodyPost_ret (v := .agg #[.string s0, .bool b1, .string s2, .slice (some ⟨w.heap.size + 1 + 1, 0, none⟩) l.length (l.length + 64), .int .i64 i4, .int .i64 i5]) ?hr rfl ?_
  case hr => simp [results, Tryz.results113, go_sem, d0, d1, d2, d3, d4, d5]
  have h1 : w.heap.size ≤ w.heap.size + 1 := Nat.le_succ _
  have n1 : w.heap.size + 1 ≠ w.heap.size + 1 + 1 := by omega
  exact ⟨_, rfl, hW4.keep ((set_ne n1).trans ((set_ne n1).trans ((set_ne n1).trans ((set_ne n1).trans ((set_ne n1).trans ((set_ne n1).trans (set_ne (by omega)))))))), by omega, ((((((hA3.setCell (Nat.le_refl _) _).setCell h1 _).setCell h1 _).setCell h1 _).setCell h1 _).setCell h1 _).setCell h1 _⟩

/-- What a def with its tree wide is laid as. -/
abbrev dput (w : World) (B k : Nat) (x : Df) (gt : Nat) : World := put6 w B (k * 6) (.string x.name) (.bool x.exp) (.string x.t) (.slice (some ⟨gt, 0, none⟩) x.tree.length (x.tree.length + 64)) (.int .i64 x.ln) (.int .i64 x.co)
abbrev dputm (w : World) (B k : Nat) : World := put6 w B (k * 6) (.string (Tb.mk 9 k)) (.bool false) (.string ⟨#[]⟩) (.slice none 0 0) (.int .i64 0) (.int .i64 0)

set_option maxHeartbeats 4000000 in
theorem wideDefs_any (l : List Df) (hl4 : l.length ≤ 2147483647) (hlt : ∀ x ∈ l, x.tree.length ≤ 2147483647) (v : Value) (w : World) (hT : Tb.Tab w) (hl : IsDefs w v l) :
    Calls Tryz.prog 64 #[v] w fun e w' => e = .returned (.slice (some ⟨w.heap.size, 0, none⟩) l.length (l.length + 64)) ∧ WideD w' w.heap.size l ∧ Below w.heap.size w w' := by
  obtain ⟨i0, hi, hz0, hz1, hz2⟩ := info_parts infoD
  obtain ⟨a, c, rfl⟩ := RowOf.form hl
  go_enter Tryz.func64, Tryz.ntmps64
  go_wp2_with (at_make; refine wpList_make_full _ rfl _ _ 55 rfl w.heap.size 54 i0 _ 6 tyDefs hi hz0 hz1 _ _ _ _ (l.length + 64) rfl rfl (by go_num) (by go_num) (by rw [hz2]; omega) (by unfold maxLen; omega) (Nat.le_refl _) ?_; intro w1 hown1 hg1)
  obtain ⟨cur0, hc0, hs0⟩ : ∃ cur, w1.heap[w.heap.size]? = some (.cells cur 54 (0, 0)) ∧ cur.size = (l.length + 64) * 6 := by
    obtain ⟨_, ⟨h, _⟩ | ⟨g, cap, cur, h, _, hh, _, _, hs, _⟩⟩ := hown1
    · cases h
    · cases h; exact ⟨cur, hh, by omega⟩
  have hB1 : Below w.heap.size w w1 := ⟨hg1.os, hg1.tape, hg1.output, hg1.size, fun k hk => hg1.block k hk (by simp)⟩
  clear hown1 hg1
  go_loopg [4] (l.length + 64) (fun m cv wr => ∃ (k : Nat) (cur : Array Value), k + m = l.length + 64 ∧ cv = .int .i64 (k : Int) ∧ wr.heap[w.heap.size]? = some (.cells cur 54 (0, 0)) ∧ cur.size = (l.length + 64) * 6 ∧ Aside (Laying 6 RDf dmark wr w.heap.size l cur k) ∧ Below w.heap.size w wr)
  case atStart => exact ⟨0, cur0, by omega, rfl, hc0, hs0, ⟨fun j x hj => absurd hj (by omega), fun j hj => absurd hj (by omega)⟩, hB1⟩
  case round =>
    clear hc0 hs0 hB1
    obtain ⟨k, cur, hkg, rfl, hcur, hcs, HJ, hB⟩ := hrel
    have hgl : w.heap.size < wr.heap.size := (Array.getElem?_eq_some_iff.1 hcur).1
    have hk0 : (0 : Int) ≤ (k : Int) := by omega
    by_cases hk : k < l.length + 64
    · have hk2 : (k : Int) < (l.length : Int) + 64 := by omega
      have HT : Aside (∀ wt, Below wr.heap.size wr wt → wt.heap[w.heap.size]? = some (.cells cur 54 (0, 0)) ∧ Below w.heap.size w wt) := fun wt h => ⟨(h.block _ hgl).trans hcur, hB.trans (h.mono hB.size)⟩
      by_cases hkl : k < l.length
      · have hkl' : (k : Int) < (l.length : Int) := by omega
        obtain ⟨x, hx⟩ := getA hkl
        obtain ⟨b1, o1, rfl, hlc, hb1, ta, tc, hn, p0, p1, p2, p3, p4, p5⟩ := (hl.below hB).at hx
        have hwd := wideDef_any x.name x.t x.exp x.tree x.ln x.co (hlt x (List.mem_of_getElem? hx)) ta tc wr hn
        have HE : Aside (∀ wt gt, Below wr.heap.size wr wt → wr.heap.size ≤ gt → Wide wt gt x.tree → ∃ cur', (dput wt w.heap.size k x gt).heap[w.heap.size]? = some (.cells cur' 54 (0, 0)) ∧ cur'.size = (l.length + 64) * 6 ∧ Laying 6 RDf dmark (dput wt w.heap.size k x gt) w.heap.size l cur' (k + 1)) := fun wt gt h hgt hW => by
          obtain ⟨cur', e1, e2, e3, e4⟩ := put6_facts (HT.out wt h).1 (o := k * 6) (by omega) (.string x.name) (.bool x.exp) (.string x.t) (.slice (some ⟨gt, 0, none⟩) x.tree.length (x.tree.length + 64)) (.int .i64 x.ln) (.int .i64 x.co)
          have hA : Above w.heap.size wt (dput wt w.heap.size k x gt) := Above.put6 ⟨Nat.le_refl _, fun _ _ _ => rfl⟩ _ _ _ _ _ _ _
          refine ⟨cur', e1, by omega, HJ.out.step (fun x _ cs r => (r.keep fun k h1 h2 => h.block k h2).keep fun k h1 h2 => hA.2 k h1 h2) (fun _ _ _ _ ⟨_, _, r, _⟩ => by rw [r]; rfl) (fun _ => rfl) e4 (fun x' hx' => ?_) (fun h => absurd h (by omega))⟩
          rw [hx] at hx'; cases hx'
          exact ⟨_, ⟨gt, by omega, rfl, hW.keep (hA.2 gt (by omega) hW.lt)⟩, e3⟩
        clear HJ hB hl hx hn hlt
        go_upto_region 4 with (go_at_call 113; refine hwd.mono ?_; rintro e wt ⟨gt, rfl, hWt, hgt, hBt⟩; obtain ⟨hcur2, hB2⟩ := HT.out wt hBt; obtain ⟨cur', q1, q2, q3⟩ := HE.out wt gt hBt hgt hWt; have HQ1 : Aside _ := q1; have HQ3 : Aside _ := q3; clear q1 q3 HE HT hBt hwd hcur p0 p1 p2 p3 p4 p5 hWt hgt; have hfz : ∀ o, wt.frozen? ⟨w.heap.size, o, none⟩ = false := (block_cells hcur2).2; have hbc := (block_cells hcur2).1; obtain ⟨u0, u1, u2, u3, u4, u5, x0, x1, x2, x3, x4, x5⟩ := cells6 (cur := cur) (o := k * 6) (by omega); have y0 := (hbc (k * 6)).trans x0; have y1 := (hbc (k * 6 + 1)).trans x1; have y2 := (hbc (k * 6 + 2)).trans x2; have y3 := (hbc (k * 6 + 3)).trans x3; have y4 := (hbc (k * 6 + 4)).trans x4; have y5 := (hbc (k * 6 + 5)).trans x5; clear hbc x0 x1 x2 x3 x4 x5)
        go_wp2_with fail
        go_roundg (gk - 1)
        case measure => omega
        case rel => exact ⟨k + 1, cur', by omega, by go_num, HQ1.out, q2, HQ3.out, put6_below hB2 (Nat.le_refl _) _ _ _ _ _ _⟩
      · have hkl' : decide ((k : Int) < (l.length : Int)) = false := by simp; omega
        have htx := Tb.text_any 9 k (by omega) (by omega) wr (hT.on hB)
        have HE : Aside (∀ wt, Below wr.heap.size wr wt → ∃ cur', (dputm wt w.heap.size k).heap[w.heap.size]? = some (.cells cur' 54 (0, 0)) ∧ cur'.size = (l.length + 64) * 6 ∧ Laying 6 RDf dmark (dputm wt w.heap.size k) w.heap.size l cur' (k + 1)) := fun wt h => by
          obtain ⟨cur', e1, e2, e3, e4⟩ := put6_facts (HT.out wt h).1 (o := k * 6) (by omega) (.string (Tb.mk 9 k)) (.bool false) (.string ⟨#[]⟩) (.slice none 0 0) (.int .i64 0) (.int .i64 0)
          have hA : Above w.heap.size wt (dputm wt w.heap.size k) := Above.put6 ⟨Nat.le_refl _, fun _ _ _ => rfl⟩ _ _ _ _ _ _ _
          exact ⟨cur', e1, by omega, HJ.out.step (fun x _ cs r => (r.keep fun k h1 h2 => h.block k h2).keep fun k h1 h2 => hA.2 k h1 h2) (fun _ _ _ _ ⟨_, _, r, _⟩ => by rw [r]; rfl) (fun _ => rfl) e4 (fun x' hx' => absurd (List.getElem?_eq_some_iff.1 hx').1 hkl) (fun _ => e3)⟩
        unfold dputm at HE
        generalize Tb.mk 9 k = mk at *
        clear hl HJ hB hT hlt
        go_upto_region 4 with (go_at_call 32; refine htx.mono ?_; rintro e wt ⟨rfl, hBt⟩; obtain ⟨hcur2, hB2⟩ := HT.out wt hBt; obtain ⟨cur', q1, q2, q3⟩ := HE.out wt hBt; have HQ1 : Aside _ := q1; have HQ3 : Aside _ := q3; clear q1 q3 HE HT hBt htx hcur; have hfz : ∀ o, wt.frozen? ⟨w.heap.size, o, none⟩ = false := (block_cells hcur2).2; have hbc := (block_cells hcur2).1; obtain ⟨u0, u1, u2, u3, u4, u5, x0, x1, x2, x3, x4, x5⟩ := cells6 (cur := cur) (o := k * 6) (by omega); have y0 := (hbc (k * 6)).trans x0; have y1 := (hbc (k * 6 + 1)).trans x1; have y2 := (hbc (k * 6 + 2)).trans x2; have y3 := (hbc (k * 6 + 3)).trans x3; have y4 := (hbc (k * 6 + 4)).trans x4; have y5 := (hbc (k * 6 + 5)).trans x5; clear hbc x0 x1 x2 x3 x4 x5)
        go_wp2_with fail
        go_roundg (gk - 1)
        case measure => omega
        case rel => exact ⟨k + 1, cur', by omega, by go_num, HQ1.out, q2, HQ3.out, put6_below hB2 (Nat.le_refl _) _ _ _ _ _ _⟩
    · have hk2 : decide ((k : Int) < (l.length : Int) + 64) = false := by simp; omega
      have hn2 : (l.length : Int) ≤ (l.length : Int) + 64 := by omega
      clear hl hlt
      go_wp2_with fail
      go_ret
      exact ⟨rfl, ⟨cur, hcur, hcs, fun j x hx => HJ.out.1 j x (by have := (List.getElem?_eq_some_iff.1 hx).1; omega) hx, fun j h1 h2 => HJ.out.2 j (by omega) h1⟩, hB⟩
end Go.Proofs.YtpikfdkgblghhaaGreatDoor
