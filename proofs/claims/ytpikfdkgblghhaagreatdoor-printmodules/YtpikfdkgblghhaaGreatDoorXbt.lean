/- The statements' own helpers on lists of modules: a list with marks behind it. -/
import Derived.Test.YtpikfdkgblghhaaGreatDoorXbs
namespace Go.Proofs.YtpikfdkgblghhaaGreatDoor
open Go.RowKit
set_option maxRecDepth 100000
set_option linter.unusedSimpArgs false

def mmark (i : Nat) : List Value := mdcells ⟨Tb.mk 9 i, [], [], 0, 0⟩ (.slice none 0 0) (.slice none 0 0)
def RMd (g : Nat) (w : World) (x : Md) (cs : List Value) : Prop := ∃ gi gd, g < gi ∧ g < gd ∧ cs = mdcells x (.slice (some ⟨gi, 0, none⟩) x.imps.length (x.imps.length + 64)) (.slice (some ⟨gd, 0, none⟩) x.defs.length (x.defs.length + 64)) ∧ WideI w gi x.imps ∧ WideD w gd x.defs
def WideM : World → Nat → List Md → Prop := WideOf 5 58 RMd mmark
theorem RMd.keep {g : Nat} {w w' : World} {x : Md} {cs : List Value} (h : RMd g w x cs) (hA : ∀ k, g < k → k < w.heap.size → w'.heap[k]? = w.heap[k]?) : RMd g w' x cs := by
  obtain ⟨gi, gd, h1, h2, h3, h4, h5⟩ := h
  exact ⟨gi, gd, h1, h2, h3, h4.keep (hA gi h1 h4.lt), h5.keep fun k e1 e2 => hA k (by omega) e2⟩
theorem WideM.lt {w : World} {g : Nat} {l : List Md} (h : WideM w g l) : g < w.heap.size := WideOf.lt h
theorem WideM.keep {w w' : World} {g : Nat} {l : List Md} (h : WideM w g l) (hA : ∀ k, g ≤ k → k < w.heap.size → w'.heap[k]? = w.heap[k]?) : WideM w' g l :=
  WideOf.keep h (hA g (Nat.le_refl _) h.lt) fun _ _ _ r => r.keep fun k h1 h2 => hA k (Nat.le_of_lt h1) h2
theorem WideM.below {w w' : World} {g : Nat} {l : List Md} (h : WideM w g l) (hB : Below w.heap.size w w') : WideM w' g l := h.keep fun k _ h2 => hB.block k h2
theorem WideM.mods {w : World} {g : Nat} {l : List Md} (h : WideM w g l) : IsMods w (.slice (some ⟨g, 0, none⟩) l.length (l.length + 64)) l := WideOf.row h fun _ _ ⟨_, _, _, _, r1, r2, r3⟩ => ⟨_, _, r1, r2.imps, r3.defs⟩
/-- One of them. -/
theorem WideM.one {w : World} {g : Nat} {l : List Md} (h : WideM w g l) {k : Nat} {x : Md} (hx : l[k]? = some x) : ∃ gi gd, WideI w gi x.imps ∧ WideD w gd x.defs ∧ w.cell? ⟨g, k * 5, none⟩ = some (.string x.name) ∧ w.cell? ⟨g, k * 5 + 1, none⟩ = some (.slice (some ⟨gi, 0, none⟩) x.imps.length (x.imps.length + 64)) ∧ w.cell? ⟨g, k * 5 + 2, none⟩ = some (.slice (some ⟨gd, 0, none⟩) x.defs.length (x.defs.length + 64)) ∧ w.cell? ⟨g, k * 5 + 3, none⟩ = some (.int .i64 x.ln) ∧ w.cell? ⟨g, k * 5 + 4, none⟩ = some (.int .i64 x.co) := by
  obtain ⟨cur, h1, h2, h3, h4⟩ := h
  obtain ⟨cs, ⟨gi, gd, _, _, rfl, r3, r5⟩, r4⟩ := h3 k x hx
  have hb := (block_cells h1).1
  exact ⟨gi, gd, r3, r5, (hb _).trans (r4 0 _ rfl), (hb _).trans (r4 1 _ rfl), (hb _).trans (r4 2 _ rfl), (hb _).trans (r4 3 _ rfl), (hb _).trans (r4 4 _ rfl)⟩
theorem tyMods : Tryz.prog.underlying 30 = some (.slice 58) := by kernel_rfl
theorem infoM : (Tryz.prog.info? 58).map (fun i => (i.zero, i.size, i.bytes)) = some (some (.agg #[.string ⟨#[]⟩, .slice none 0 0, .slice none 0 0, .int .i64 0, .int .i64 0]), 5, 80) := by kernel_rfl

theorem two_after {w3 w4 : World} {N : Nat} {arr arr2 : Array Value} {T T2 : TypeId} {v : Value} (k1 : w3.heap[N]? = some (.cells arr T (0, 0))) (k2 : w3.heap[N + 1]? = some (.cells arr2 T2 (0, 0))) (h1 : 1 < arr.size) (hB : Below (w3.setCell ⟨N, 1, none⟩ v).heap.size (w3.setCell ⟨N, 1, none⟩ v) w4) :
    ∃ cu : Array Value, w4.heap[N]? = some (.cells cu T (0, 0)) ∧ cu[1]? = some v ∧ (∀ j, j ≠ 1 → cu[j]? = arr[j]?) ∧ w4.heap[N + 1]? = some (.cells arr2 T2 (0, 0)) ∧ w3.heap.size ≤ w4.heap.size := by
  have hs : (w3.setCell ⟨N, 1, none⟩ v).heap.size = w3.heap.size := by simp [World.setCell]
  have l1 : N < w3.heap.size := (Array.getElem?_eq_some_iff.1 k1).1
  have l2 : N + 1 < w3.heap.size := (Array.getElem?_eq_some_iff.1 k2).1
  obtain ⟨cu, s1, s2, s3, s4⟩ := set_facts k1 (k := 1) h1 v
  exact ⟨cu, (hB.block N (by rw [hs]; exact l1)).trans s1, s3, s4, (hB.block (N + 1) (by rw [hs]; exact l2)).trans ((set_ne (by omega)).trans k2), by rw [← hs]; exact hB.size⟩

set_option maxHeartbeats 1000000 in
theorem wideModule_any (s0 : ByteArray) (li : List Im) (ld : List Df) (i3 i4 : Int) (hi4 : li.length ≤ 2147483647) (hd4 : ld.length ≤ 2147483647) (hdt : ∀ x ∈ ld, x.tree.length ≤ 2147483647) (ia da : Option Addr) (ic dc : Nat) (w : World) (hT : Tb.Tab w) (hI : IsImps w (.slice ia li.length ic) li) (hD : IsDefs w (.slice da ld.length dc) ld) :
    Calls Tryz.prog 31 #[.agg #[.string s0, .slice ia li.length ic, .slice da ld.length dc, .int .i64 i3, .int .i64 i4]] w fun e w' => ∃ gi gd, e = .returned (.agg #[.string s0, .slice (some ⟨gi, 0, none⟩) li.length (li.length + 64), .slice (some ⟨gd, 0, none⟩) ld.length (ld.length + 64), .int .i64 i3, .int .i64 i4]) ∧ WideI w' gi li ∧ WideD w' gd ld ∧ w.heap.size ≤ gi ∧ w.heap.size ≤ gd ∧ Below w.heap.size w w' := by
  have hB0 : ∀ o1 o2, Below w.heap.size w ((w.alloc o1).alloc o2) := fun o1 o2 => ((Below.refl _ _).alloc (Nat.le_refl _) o1).alloc (by simp) o2
  have hw := fun o1 o2 => wideImps_any li hi4 _ _ (hT.on (hB0 o1 o2)) (hI.below (hB0 o1 o2))
  have hw2 := fun W (h : Below w.heap.size w W) => wideDefs_any ld hd4 hdt _ W (hT.on h) (hD.below h)
  have HB : Aside (∀ o1 o2 W, Below ((w.alloc o1).alloc o2).heap.size ((w.alloc o1).alloc o2) W → W.heap[w.heap.size]? = some o1 ∧ W.heap[w.heap.size + 1]? = some o2 ∧ Below w.heap.size w W ∧ w.heap.size + 2 ≤ W.heap.size) := fun o1 o2 W h =>
    ⟨(h.block w.heap.size (by simp; omega)).trans ((Below.heap_alloc _ _ _ (by simp)).trans (heap_alloc_new _ _)), (h.block (w.heap.size + 1) (by simp)).trans (by have := heap_alloc_new (w.alloc o1) o2; simpa using this), (hB0 o1 o2).trans (h.mono (by simp; omega)), by have := h.size; simp at this; omega⟩
  have HSZ : Aside (∀ o1 o2, ((w.alloc o1).alloc o2).heap.size = w.heap.size + 1 + 1) := fun o1 o2 => by simp
  clear hI hD
  go_enter Tryz.func31, Tryz.ntmps31
  go_wp2_with (first
    | (go_at_call 63; refine (hw _ _).mono ?_; rintro e w3 ⟨rfl, hW3, hB3⟩; obtain ⟨k1, k2, hA3, hz3⟩ := HB.out _ _ _ hB3; have f1 := (block_cells k1).2; have f2 := (block_cells k2).2; have c0 := (block_cells k1).1 0; have c1 := (block_cells k1).1 1; have c2 := (block_cells k1).1 2; have c3 := (block_cells k1).1 3; have c4 := (block_cells k1).1 4; have hA3' : Below w.heap.size w (w3.setCell ⟨w.heap.size, 1, none⟩ (.slice (some ⟨w.heap.size + 1 + 1, 0, none⟩) li.length (li.length + 64))) := hA3.setCell (Nat.le_refl _) _; clear hB3 hw HB hB0)
    | (go_at_call 64; refine (hw2 _ hA3').mono ?_; rintro e w4 ⟨rfl, hW4, hB4⟩; obtain ⟨cu, k4, s3, s4, k3, hz4⟩ := two_after k1 k2 (by simp) hB4; clear f1 f2 c0 c1 c2 c3 c4 k1 k2; have f1 := (block_cells k4).2; have f2 := (block_cells k3).2; have c0 := ((block_cells k4).1 0).trans (s4 0 (by decide)); have c1 := ((block_cells k4).1 1).trans s3; have c2 := ((block_cells k4).1 2).trans (s4 2 (by decide)); have c3 := ((block_cells k4).1 3).trans (s4 3 (by decide)); have c4 := ((block_cells k4).1 4).trans (s4 4 (by decide)); have d0 := (block_cells k3).1 0; have d1 := (block_cells k3).1 1; have d2 := (block_cells k3).1 2; have d3 := (block_cells k3).1 3; have d4 := (block_cells k3).1 4; clear k3 k4 s3 s4 hw2))
  have hgs : (w3.setCell ⟨w.heap.size, 1, none⟩ (.slice (some ⟨w.heap.size + 1 + 1, 0, none⟩) li.length (li.length + 64))).heap.size = w3.heap.size := by simp [World.setCell]
  have hW5 : WideI w3 (w.heap.size + 1 + 1) li := by rw [HSZ.out] at hW3; exact hW3
  rw [hgs] at hW4
  clear hW3
  try simp only [Exit.inBlock, Exit.then]
  refine bodyPost_ret (v := .agg #[.string s0, .slice (some ⟨w.heap.size + 1 + 1, 0, none⟩) li.length (li.length + 64), .slice (some ⟨w3.heap.size, 0, none⟩) ld.length (ld.length + 64), .int .i64 i3, .int .i64 i4]) ?hr rfl ?_
  case hr => simp [results, Tryz.results31, go_sem, d0, d1, d2, d3, d4]
  have h1 : w.heap.size ≤ w.heap.size + 1 := Nat.le_succ _
  have hlt := hW5.lt
  have hA4 : Below w.heap.size w w4 := hA3'.trans (hB4.mono hA3'.size)
  refine ⟨_, _, rfl, hW5.keep ?_, hW4.keep ?_, by omega, by omega, ((((((hA4.setCell (Nat.le_refl _) _).setCell h1 _).setCell h1 _).setCell h1 _).setCell h1 _).setCell h1 _)⟩
  · have n1 : w.heap.size + 1 ≠ w.heap.size + 1 + 1 := by omega
    exact (set_ne n1).trans ((set_ne n1).trans ((set_ne n1).trans ((set_ne n1).trans ((set_ne n1).trans ((set_ne (by omega)).trans ((hB4.block _ (by rw [hgs]; exact hlt)).trans (set_ne (by omega))))))))
  · intro k e1 e2
    have n1 : w.heap.size + 1 ≠ k := by omega
    exact (set_ne n1).trans ((set_ne n1).trans ((set_ne n1).trans ((set_ne n1).trans ((set_ne n1).trans (set_ne (by omega))))))

abbrev mput (w : World) (B k : Nat) (x : Md) (gi gd : Nat) : World := put5 w B (k * 5) (.string x.name) (.slice (some ⟨gi, 0, none⟩) x.imps.length (x.imps.length + 64)) (.slice (some ⟨gd, 0, none⟩) x.defs.length (x.defs.length + 64)) (.int .i64 x.ln) (.int .i64 x.co)
abbrev mputm (w : World) (B k : Nat) : World := put5 w B (k * 5) (.string (Tb.mk 9 k)) (.slice none 0 0) (.slice none 0 0) (.int .i64 0) (.int .i64 0)
/-- Modules of few parts. -/
structure Few (l : List Md) : Prop where
  len : l.length ≤ 2147483647
  imps : ∀ m ∈ l, m.imps.length ≤ 2147483647
  defs : ∀ m ∈ l, m.defs.length ≤ 2147483647
  tree : ∀ m ∈ l, ∀ x ∈ m.defs, x.tree.length ≤ 2147483647

set_option maxHeartbeats 4000000 in
theorem wideMods_any (l : List Md) (hfw : Few l) (v : Value) (w : World) (hT : Tb.Tab w) (hl : IsMods w v l) :
    Calls Tryz.prog 14 #[v] w fun e w' => e = .returned (.slice (some ⟨w.heap.size, 0, none⟩) l.length (l.length + 64)) ∧ WideM w' w.heap.size l ∧ Below w.heap.size w w' := by
  have hl4 := hfw.len
  have HFW : Aside (Few l) := hfw
  clear hfw
  obtain ⟨i0, hi, hz0, hz1, hz2⟩ := info_parts infoM
  obtain ⟨a, c, rfl⟩ := RowOf.form hl
  go_enter Tryz.func14, Tryz.ntmps14
  go_wp2_with (at_make; refine wpList_make_full _ rfl _ _ 30 rfl w.heap.size 58 i0 _ 5 tyMods hi hz0 hz1 _ _ _ _ (l.length + 64) rfl rfl (by go_num) (by go_num) (by rw [hz2]; omega) (by unfold maxLen; omega) (Nat.le_refl _) ?_; intro w1 hown1 hg1)
  obtain ⟨cur0, hc0, hs0⟩ : ∃ cur, w1.heap[w.heap.size]? = some (.cells cur 58 (0, 0)) ∧ cur.size = (l.length + 64) * 5 := by
    obtain ⟨_, ⟨h, _⟩ | ⟨g, cap, cur, h, _, hh, _, _, hs, _⟩⟩ := hown1
    · cases h
    · cases h; exact ⟨cur, hh, by omega⟩
  have hB1 : Below w.heap.size w w1 := ⟨hg1.os, hg1.tape, hg1.output, hg1.size, fun k hk => hg1.block k hk (by simp)⟩
  clear hown1 hg1
  go_loopg [4] (l.length + 64) (fun m cv wr => ∃ (k : Nat) (cur : Array Value), k + m = l.length + 64 ∧ cv = .int .i64 (k : Int) ∧ wr.heap[w.heap.size]? = some (.cells cur 58 (0, 0)) ∧ cur.size = (l.length + 64) * 5 ∧ Aside (Laying 5 RMd mmark wr w.heap.size l cur k) ∧ Below w.heap.size w wr)
  case atStart => exact ⟨0, cur0, by omega, rfl, hc0, hs0, ⟨fun j x hj => absurd hj (by omega), fun j hj => absurd hj (by omega)⟩, hB1⟩
  case round =>
    clear hc0 hs0 hB1
    obtain ⟨k, cur, hkg, rfl, hcur, hcs, HJ, hB⟩ := hrel
    have hgl : w.heap.size < wr.heap.size := (Array.getElem?_eq_some_iff.1 hcur).1
    have hk0 : (0 : Int) ≤ (k : Int) := by omega
    by_cases hk : k < l.length + 64
    · have hk2 : (k : Int) < (l.length : Int) + 64 := by omega
      have HT : Aside (∀ wt, Below wr.heap.size wr wt → wt.heap[w.heap.size]? = some (.cells cur 58 (0, 0)) ∧ Below w.heap.size w wt) := fun wt h => ⟨(h.block _ hgl).trans hcur, hB.trans (h.mono hB.size)⟩
      by_cases hkl : k < l.length
      · have hkl' : (k : Int) < (l.length : Int) := by omega
        obtain ⟨x, hx⟩ := getA hkl
        have hxm := List.mem_of_getElem? hx
        obtain ⟨b1, o1, rfl, hlc, hb1, ia, ic, da, dc, hI, hD, p0, p1, p2, p3, p4⟩ := (hl.below hB).at hx
        have hwd := wideModule_any x.name x.imps x.defs x.ln x.co (HFW.out.imps x hxm) (HFW.out.defs x hxm) (HFW.out.tree x hxm) ia da ic dc wr (hT.on hB) hI hD
        have HE : Aside (∀ wt gi gd, Below wr.heap.size wr wt → wr.heap.size ≤ gi → wr.heap.size ≤ gd → WideI wt gi x.imps → WideD wt gd x.defs → ∃ cur', (mput wt w.heap.size k x gi gd).heap[w.heap.size]? = some (.cells cur' 58 (0, 0)) ∧ cur'.size = (l.length + 64) * 5 ∧ Laying 5 RMd mmark (mput wt w.heap.size k x gi gd) w.heap.size l cur' (k + 1)) := fun wt gi gd h hgi hgd hWi hWd => by
          obtain ⟨cur', e1, e2, e3, e4⟩ := put5_facts (HT.out wt h).1 (o := k * 5) (by omega) (.string x.name) (.slice (some ⟨gi, 0, none⟩) x.imps.length (x.imps.length + 64)) (.slice (some ⟨gd, 0, none⟩) x.defs.length (x.defs.length + 64)) (.int .i64 x.ln) (.int .i64 x.co)
          have hA : Above w.heap.size wt (mput wt w.heap.size k x gi gd) := Above.put5 ⟨Nat.le_refl _, fun _ _ _ => rfl⟩ _ _ _ _ _ _
          refine ⟨cur', e1, by omega, HJ.out.step (fun x _ cs r => (r.keep fun k h1 h2 => h.block k h2).keep fun k h1 h2 => hA.2 k h1 h2) (fun _ _ _ _ ⟨_, _, _, _, r, _⟩ => by rw [r]; rfl) (fun _ => rfl) e4 (fun x' hx' => ?_) (fun h => absurd h (by omega))⟩
          rw [hx] at hx'; cases hx'
          exact ⟨_, ⟨gi, gd, by omega, by omega, rfl, hWi.keep (hA.2 gi (by omega) hWi.lt), hWd.keep fun j h1 h2 => hA.2 j (by omega) h2⟩, e3⟩
        clear HJ hB hl hx hI hD
        go_upto_region 4 with (go_at_call 31; refine hwd.mono ?_; rintro e wt ⟨gi, gd, rfl, hWi, hWd, hgi, hgd, hBt⟩; obtain ⟨hcur2, hB2⟩ := HT.out wt hBt; obtain ⟨cur', q1, q2, q3⟩ := HE.out wt gi gd hBt hgi hgd hWi hWd; have HQ1 : Aside _ := q1; have HQ3 : Aside _ := q3; clear q1 q3 HE HT hBt hwd hcur p0 p1 p2 p3 p4 hWi hWd hgi hgd; have hfz : ∀ o, wt.frozen? ⟨w.heap.size, o, none⟩ = false := (block_cells hcur2).2; have hbc := (block_cells hcur2).1; obtain ⟨u0, u1, u2, u3, u4, x0, x1, x2, x3, x4⟩ := cells5 (cur := cur) (o := k * 5) (by omega); have y0 := (hbc (k * 5)).trans x0; have y1 := (hbc (k * 5 + 1)).trans x1; have y2 := (hbc (k * 5 + 2)).trans x2; have y3 := (hbc (k * 5 + 3)).trans x3; have y4 := (hbc (k * 5 + 4)).trans x4; clear hbc x0 x1 x2 x3 x4)
        go_wp2_with fail
        go_roundg (gk - 1)
        case measure => omega
        case rel => exact ⟨k + 1, cur', by omega, by go_num, HQ1.out, q2, HQ3.out, put5_below hB2 (Nat.le_refl _) _ _ _ _ _⟩
      · have hkl' : decide ((k : Int) < (l.length : Int)) = false := by simp; omega
        have htx := Tb.text_any 9 k (by omega) (by omega) wr (hT.on hB)
        have HE : Aside (∀ wt, Below wr.heap.size wr wt → ∃ cur', (mputm wt w.heap.size k).heap[w.heap.size]? = some (.cells cur' 58 (0, 0)) ∧ cur'.size = (l.length + 64) * 5 ∧ Laying 5 RMd mmark (mputm wt w.heap.size k) w.heap.size l cur' (k + 1)) := fun wt h => by
          obtain ⟨cur', e1, e2, e3, e4⟩ := put5_facts (HT.out wt h).1 (o := k * 5) (by omega) (.string (Tb.mk 9 k)) (.slice none 0 0) (.slice none 0 0) (.int .i64 0) (.int .i64 0)
          have hA : Above w.heap.size wt (mputm wt w.heap.size k) := Above.put5 ⟨Nat.le_refl _, fun _ _ _ => rfl⟩ _ _ _ _ _ _
          exact ⟨cur', e1, by omega, HJ.out.step (fun x _ cs r => (r.keep fun k h1 h2 => h.block k h2).keep fun k h1 h2 => hA.2 k h1 h2) (fun _ _ _ _ ⟨_, _, _, _, r, _⟩ => by rw [r]; rfl) (fun _ => rfl) e4 (fun x' hx' => absurd (List.getElem?_eq_some_iff.1 hx').1 hkl) (fun _ => e3)⟩
        unfold mputm at HE
        generalize Tb.mk 9 k = mk at *
        clear hl HJ hB hT
        go_upto_region 4 with (go_at_call 32; refine htx.mono ?_; rintro e wt ⟨rfl, hBt⟩; obtain ⟨hcur2, hB2⟩ := HT.out wt hBt; obtain ⟨cur', q1, q2, q3⟩ := HE.out wt hBt; have HQ1 : Aside _ := q1; have HQ3 : Aside _ := q3; clear q1 q3 HE HT hBt htx hcur; have hfz : ∀ o, wt.frozen? ⟨w.heap.size, o, none⟩ = false := (block_cells hcur2).2; have hbc := (block_cells hcur2).1; obtain ⟨u0, u1, u2, u3, u4, x0, x1, x2, x3, x4⟩ := cells5 (cur := cur) (o := k * 5) (by omega); have y0 := (hbc (k * 5)).trans x0; have y1 := (hbc (k * 5 + 1)).trans x1; have y2 := (hbc (k * 5 + 2)).trans x2; have y3 := (hbc (k * 5 + 3)).trans x3; have y4 := (hbc (k * 5 + 4)).trans x4; clear hbc x0 x1 x2 x3 x4)
        go_wp2_with fail
        go_roundg (gk - 1)
        case measure => omega
        case rel => exact ⟨k + 1, cur', by omega, by go_num, HQ1.out, q2, HQ3.out, put5_below hB2 (Nat.le_refl _) _ _ _ _ _⟩
    · have hk2 : decide ((k : Int) < (l.length : Int) + 64) = false := by simp; omega
      have hn2 : (l.length : Int) ≤ (l.length : Int) + 64 := by omega
      clear hl
      go_wp2_with fail
      go_ret
      exact ⟨rfl, ⟨cur, hcur, hcs, fun j x hx => HJ.out.1 j x (by have := (List.getElem?_eq_some_iff.1 hx).1; omega) hx, fun j h1 h2 => HJ.out.2 j (by omega) h1⟩, hB⟩
end Go.Proofs.YtpikfdkgblghhaaGreatDoor
