/- Package insert: term. Package insert: node. Package insert: node, of functions and of lists; all kinds. -/
import Derived.Test.YthdlfeejeboboaaGreatDoorUax
import Derived.Test.YthdlfeejeboboaaGreatDoorUbg
import Derived.Deep.RegionHeld3
namespace Go.Proofs.YthdlfeejeboboaaGreatDoor
open Go.RowKit Go.Maps Ck
open T3.Tp (Ty enc cns met)
open Tr (T Nd nm flat flats)
set_option maxRecDepth 100000
set_option linter.unusedSimpArgs false
set_option linter.unusedVariables false
namespace In
mutual
def szP : PT → Nat
  | .pt _ _ ks => szPs ks + 1
def szPs : List PT → Nat
  | [] => 0
  | p :: r => szP p + szPs r
end
theorem szPs_at : ∀ {ks : List PT} {k : Nat} {p : PT}, ks[k]? = some p → szP p ≤ szPs ks
  | [], k, p, h => by simp at h
  | q :: r, 0, p, h => by simp at h; subst h; rw [szPs]; omega
  | q :: r, k + 1, p, h => by
    have := szPs_at (ks := r) (k := k) (by simpa using h)
    rw [szPs]; omega
theorem szP_pos : ∀ (p : PT), 1 ≤ szP p
  | .pt _ _ ks => by rw [szP]; omega
theorem len_szPs : ∀ (ks : List PT), ks.length ≤ szPs ks
  | [] => by simp
  | p :: r => by have := len_szPs r; have := szP_pos p; simp [szPs]; omega
theorem terms_take : ∀ {ks : List PT} {k : Nat} {p : PT}, ks[k]? = some p → terms (ks.take (k + 1)) = terms (ks.take k) ++ term p
  | [], k, p, h => by simp at h
  | q :: r, 0, p, h => by simp at h; subst h; simp [terms]
  | q :: r, k + 1, p, h => by
    have := terms_take (ks := r) (k := k) (p := p) (by simpa using h)
    rw [List.take_succ_cons, terms, this, List.take_succ_cons, terms, List.append_assoc]
theorem terms_len : ∀ {ks : List PT} {k : Nat}, (terms (ks.take k)).length ≤ (terms ks).length
  | [], k => by simp
  | q :: r, 0 => by simp [terms]
  | q :: r, k + 1 => by
    have := terms_len (ks := r) (k := k)
    simp only [List.take_succ_cons, terms, List.length_append]; omega
mutual
def plB : PT → Prop
  | .pt p _ ks => p ≤ 1000000 ∧ plBs ks
def plBs : List PT → Prop
  | [] => True
  | p :: r => plB p ∧ plBs r
end
theorem plB_plc : ∀ {p : PT}, plB p → p.plc ≤ 1000000
  | .pt p _ ks, h => by rw [plB] at h; exact h.1
theorem plBs_at : ∀ {ks : List PT} {k : Nat} {p : PT}, plBs ks → ks[k]? = some p → plB p
  | [], k, p, _, h => by simp at h
  | q :: r, 0, p, hb, h => by simp at h; subst h; rw [plBs] at hb; exact hb.1
  | q :: r, k + 1, p, hb, h => by rw [plBs] at hb; exact plBs_at hb.2 (k := k) (by simpa using h)
def TmEnd (w0 : World) (l : List Nd) (e : Ending) (w' : World) : Prop := ∃ v', e = .returned v' ∧ w'.ownsRow w0.heap.size 72 8 v' l.length (nrow l) ∧ Below w0.heap.size w0 w'
end In

set_option maxHeartbeats 8000000 in
theorem term_any (w0 : World) : ∀ (n : Nat) (p : In.PT) (lo hi b : Nat) (lv : Value) (L : List Nd) (w : World), In.szP p ≤ n → In.plB p → In.IsPT w0 p lo hi b → Below w0.heap.size w0 w → w.ownsRow w0.heap.size 72 8 lv L.length (nrow L) → L.length + (In.term p).length ≤ 1000000 → n ≤ 1000000 →
    Calls Tryz.prog 27 #[.pointer (some ⟨b, 0, none⟩), lv] w (In.TmEnd w0 (L ++ In.term p))
  | 0, .pt at' ah ks, _, _, _, _, _, _, h, _, _, _, _, _, _ => by simp [In.szP] at h
  | n + 1, .pt at' ah ks, lo, hi, b, lv, L, w, hn, hpb, hp, hB, ho, hl, hn9 => by
    rw [In.plB] at hpb
    have hp' := hp
    rw [In.IsPT] at hp'
    obtain ⟨va, kb, mb, bs, m, h1, h2, h3, h4, h5, h6, hpn, hah, hks⟩ := hp'
    have lt : ∀ {k o}, w0.heap[k]? = some o → k < w0.heap.size := fun h => (Array.getElem?_eq_some_iff.1 h).1
    have hbl : b < w0.heap.size := lt hpn.blk
    have hkl : kb < w0.heap.size := lt hpn.row
    have hml : mb < w0.heap.size := by obtain ⟨es, c, e⟩ := hpn.mp.isMap; exact lt e
    obtain ⟨d0, d1, d2, d3, dz, dk, dkz⟩ := hpn.cells
    have HD : Aside (∀ W, Below w0.heap.size w0 W → W.cell? ⟨b, 1, none⟩ = some va ∧ W.cell? ⟨b, 2, none⟩ = some (.slice (some ⟨kb, 0, none⟩) ks.length ks.length) ∧ W.cell? ⟨b, 3, none⟩ = some (.map (some mb)) ∧ (∀ j, W.cell? ⟨kb, j, none⟩ = (In.icells (ks.map In.PT.plc))[j]?) ∧ In.PMp W mb (ks.map In.PT.plc) bs) := fun W hW =>
      ⟨(hW.cell (p := ⟨b, 1, none⟩) hbl).trans d1, (hW.cell (p := ⟨b, 2, none⟩) hbl).trans d2, (hW.cell (p := ⟨b, 3, none⟩) hbl).trans d3, fun j => (hW.cell (p := ⟨kb, j, none⟩) hkl).trans (dk j), hpn.mp.keep (hW.block mb hml)⟩
    obtain ⟨a1, -, -, -, -⟩ := HD.out w hB
    have hah0 : w.ownsRow 0 72 8 va ah.length (nrow ah) := own_keepG hah (fun g cur _ hc => hB.block g (lt hc))
    obtain ⟨i0, hi0, hz0, hz1, hz2⟩ := info_parts infoN
    have hT : (In.term (.pt at' ah ks)).length = ah.length + (In.terms ks).length := by simp [In.term]
    have HT : Aside (L ++ In.term (.pt at' ah ks) = (L ++ ah) ++ In.terms ks) := by show _ = _; simp [In.term]
    have HIH : Aside (∀ (j : Nat) (q : In.PT) (bq : Nat) (lv' : Value) (L' : List Nd) (W : World), ks[j]? = some q → bs[j]? = some bq → Below w0.heap.size w0 W → W.ownsRow w0.heap.size 72 8 lv' L'.length (nrow L') → L'.length + (In.term q).length ≤ 1000000 → Calls Tryz.prog 27 #[.pointer (some ⟨bq, 0, none⟩), lv'] W (In.TmEnd w0 (L' ++ In.term q))) := fun j q bq lv' L' W hq hbq hW hO hL => by
      obtain ⟨b2, l2, h2', e1, e2, e3, e4⟩ := In.isPTs_at _ hks hq
      obtain rfl : b2 = bq := by rw [e1] at hbq; exact Option.some.inj hbq
      refine term_any w0 n q l2 h2' b2 lv' L' W ?_ (In.plBs_at hpb.2 hq) e4 hW hO hL (by omega)
      have := In.szPs_at hq
      rw [In.szP] at hn
      omega
    have hbs := In.isPTs_len _ hks
    have HPL : Aside (∀ (j : Nat) (q : In.PT), ks[j]? = some q → q.plc ≤ 1000000) := fun j q hq => In.plB_plc (In.plBs_at hpb.2 hq)
    have hkz : ks.length ≤ 1000000 := by have := In.len_szPs ks; rw [In.szP] at hn; omega
    rw [hT] at hl
    clear hp hpn hah hks hn hT d0 d1 d2 d3 dz dk dkz
    obtain ⟨M, hM⟩ : ∃ M, M = L ++ In.term (.pt at' ah ks) := ⟨_, rfl⟩
    rw [← hM]
    have HM : Aside (M = (L ++ ah) ++ In.terms ks) := hM.trans HT.out
    clear HT hM
    have HX : ∀ w1 v1, w1.ownsRow w0.heap.size 72 8 v1 (L.length + ah.length) (nrow L ++ nrow ah) → w.grownBy w1 lv.ownBlock → w1.ownsRow w0.heap.size 72 8 v1 (L ++ ah).length (nrow (L ++ ah)) ∧ Below w0.heap.size w0 w1 := fun w1 v1 ho1 hg1 => ⟨by rw [nrow_append, List.length_append]; exact ho1, hB.grown hg1 hB.size (fun q e => (ho.lt q e).1)⟩
    generalize hnk : ks.length = nk at *
    have HNK : Aside (ks.length = nk) := hnk
    clear hnk
    go_enter Tryz.func27, Tryz.ntmps27
    go_wp2_with (at_builtin; go_must (refine wpList_append_rows rfl _ _ 22 rfl w0.heap.size 0 72 i0 _ 8 88 tyNodes hi0 hz0 hz1 hz2 rfl (by decide) lv _ _ rfl ho va _ _ rfl hah0 (nrow_one ah) (by unfold maxLen; omega) (by omega) hB.size ?_); intro v1 w1 hown1' hg1 hat1; obtain ⟨hown1, hB1⟩ := HX _ _ hown1' hg1; obtain ⟨a1, a2, a3, a4, a5⟩ := HD.out w1 hB1; clear hown1' hg1 hat1)
    have hll : (L ++ ah).length = L.length + ah.length := by simp
    clear HX ho hah0 hB
    go_loopg [1, 18] nk (fun gq v0 tq wr => ∃ j : Nat, j + gq = nk ∧ tq = .int .i64 (j : Int) ∧ Below w0.heap.size w0 wr ∧ wr.ownsRow w0.heap.size 72 8 v0 ((L ++ ah) ++ In.terms (ks.take j)).length (nrow ((L ++ ah) ++ In.terms (ks.take j))))
    case atStart => exact ⟨0, by omega, rfl, hB1, by simpa [In.terms] using hown1⟩
    case round =>
      clear a1 a2 a3 a4 a5 hB1 hown1
      obtain ⟨j, hjg, rfl, hBr, hor⟩ := hrel
      by_cases hj : j < nk
      · have hj' : (j : Int) < (nk : Int) := by omega
        have hj0 : (0 : Int) ≤ (j : Int) := by omega
        obtain ⟨q, hq⟩ : ∃ q, ks[j]? = some q := ⟨_, List.getElem?_eq_getElem (by rw [HNK.out]; exact hj)⟩
        obtain ⟨bq, hbq⟩ : ∃ bq, bs[j]? = some bq := ⟨_, List.getElem?_eq_getElem (by omega)⟩
        obtain ⟨a1, a2, a3, a4, a5⟩ := HD.out wr hBr
        have e0 : (ks.map In.PT.plc)[j]? = some q.plc := by rw [List.getElem?_map, hq]; rfl
        have k0 : wr.cell? ⟨kb, j, none⟩ = some (.int .i64 (q.plc : Int)) := by rw [a4 j]; simp only [In.icells, List.getElem?_map, hq, Option.map_some]
        have hlk := a5.look e0 hbq (by have := HPL.out j q hq; omega)
        have hlen := In.terms_len (ks := ks) (k := j + 1)
        rw [In.terms_take hq, List.length_append] at hlen
        have hcall := HIH.out j q bq _ _ wr hq hbq hBr hor (by simp only [List.length_append] at hlen ⊢; omega)
        have HTK : Aside ((L ++ ah) ++ In.terms (ks.take j) ++ In.term q = (L ++ ah) ++ In.terms (ks.take (j + 1))) := by show _ = _; rw [In.terms_take hq, List.append_assoc]
        rw [HTK.out] at hcall
        clear a4 a5 e0 hlen hor HTK hq
        generalize q.plc = pq at *
        go_wp2_with fail
        refine hcall.mono ?_
        rintro e w2 ⟨v2, rfl, ho2, hB2⟩
        go_wp2_with fail
        go_roundg (nk - (j + 1))
        case measure => omega
        case rel => exact ⟨j + 1, by omega, by go_num, hB2, ho2⟩
      · have hj' : ¬ (j : Int) < (nk : Int) := by omega
        obtain rfl : j = nk := by omega
        rw [← HNK.out, List.take_length] at hor
        go_wp2_with fail
        go_ret
        rw [HM.out]
        exact ⟨u1, rfl, hor, hBr⟩
end Go.Proofs.YthdlfeejeboboaaGreatDoor
namespace Go.Proofs.YthdlfeejeboboaaGreatDoor
open Go.RowKit Go.Maps Ck
open T3.Tp (Ty enc cns met)
open Tr (T Nd nm flat flats)
set_option maxRecDepth 100000
set_option linter.unusedSimpArgs false
set_option linter.unusedVariables false

def NdEnd (w : World) (r : List Nd) (e : Ending) (w' : World) : Prop := ∃ v', e = .returned v' ∧ w'.ownsRow w.heap.size 72 8 v' r.length (nrow r) ∧ Below w.heap.size w w'
theorem own_one (w : World) (y : Nd) : (w.alloc (.cells (Tr.ncells y).toArray 72)).ownsRow w.heap.size 72 8 (.slice (some ⟨w.heap.size, 0, none⟩) 1 1) 1 (nrow [y]) :=
  ⟨by simp [nrow, Tr.ncells], .inr ⟨w.heap.size, 1, _, rfl, Nat.le_refl _, heap_alloc_new _ _, Nat.le_refl _, by unfold maxLen; omega, by simp [Tr.ncells], by simp [nrow, Tr.ncells]⟩⟩
theorem nd_end {w W : World} {y : Nd} {r : List Nd} (hr : r = [y]) (hB : Below w.heap.size w W) : NdEnd w r (.returned (.slice (some ⟨W.heap.size, 0, none⟩) 1 1)) (W.alloc (.cells (Tr.ncells y).toArray 72)) := by
  subst hr
  exact ⟨_, rfl, own_low (own_one W y) hB.size, hB.alloc hB.size _⟩
theorem heap_two (w : World) (a b : Obj) : ((w.alloc a).alloc b).heap[w.heap.size + 1]? = some b := by
  have h := heap_alloc_new (w.alloc a) b
  rwa [show (w.alloc a).heap.size = w.heap.size + 1 by simp] at h
theorem nd_endX {w W : World} {y : Nd} {r : List Nd} {bk : Nat} {cs : Array Value} (hr : r = [y]) (hB : Below w.heap.size w W) (hb : bk = W.heap.size) (hc : cs = (Tr.ncells y).toArray) : NdEnd w r (.returned (.slice (some ⟨bk, 0, none⟩) 1 1)) (W.alloc (.cells cs 72)) := by
  subst hb hc
  exact nd_end hr hB
structure Two2 (w W : World) (x y : Nd) : Prop where
  bl : Below w.heap.size w W
  sz : W.heap.size = w.heap.size + 2
  b0 : W.heap[w.heap.size]? = some (.cells (Tr.ncells x).toArray 72 (0, 0))
  b1 : W.heap[w.heap.size + 1]? = some (.cells (Tr.ncells y).toArray 72 (0, 0))
theorem Two2.set {w W : World} {x y y' : Nd} {o : Nat} {u : Value} (h : Two2 w W x y) (e : (Tr.ncells y).toArray.setIfInBounds o u = (Tr.ncells y').toArray) : Two2 w (W.setCell ⟨w.heap.size + 1, o, none⟩ u) x y' :=
  ⟨h.bl.trans ⟨rfl, rfl, rfl, by simp [World.setCell], fun k hk => In.setc_ne (by omega)⟩, by simpa [World.setCell] using h.sz, (In.setc_ne (by omega)).trans h.b0, by rw [In.setc h.b1, e]⟩
theorem Two2.drew {w W : World} {x y : Nd} (h : Two2 w W x y) : Two2 w W.drew x y := ⟨below_drew h.bl, h.sz, h.b0, h.b1⟩
theorem Two2.below {w W W' : World} {x y : Nd} (h : Two2 w W x y) (k : Below W.heap.size W W') : Below w.heap.size w W' ∧ W'.heap[w.heap.size]? = some (.cells (Tr.ncells x).toArray 72 (0, 0)) ∧ W'.heap[w.heap.size + 1]? = some (.cells (Tr.ncells y).toArray 72 (0, 0)) := by
  have := h.sz
  exact ⟨h.bl.trans (k.mono (by omega)), (k.block _ (by omega)).trans h.b0, (k.block _ (by omega)).trans h.b1⟩

set_option maxHeartbeats 8000000 in
theorem node_o (B ib fb i at' : Nat) (sv nv tv v : Value) (md : ByteArray) (l : List Nd) (ts : List Ty) (N L : List (List UInt8)) (ss : List In.Si) (x : Nd) (τ : Ty) (w : World) (hI : In.Is B w ib sv md nv tv l ts N fb i ss) (hx : l[at']? = some x) (hτ : ts[at']? = some τ) (h64 : (enc τ).length ≤ 64) (hl : l.length ≤ 100000) (hs : x.s.size ≤ maxLen) (hN : N.length ≤ 1000) (hL : L.length ≤ 100000) (hv : IsAr w v L) (hk : x.kind ≠ 1 ∧ x.kind ≠ 3 ∧ x.kind ≠ 2 ∧ x.kind ≠ 4 ∧ x.kind ≠ 5 ∧ x.kind ≠ 6 ∧ x.kind ≠ 8 ∧ x.kind ≠ 21 ∧ x.kind ≠ 29) :
    Calls Tryz.prog 62 #[.pointer (some ⟨ib, 0, none⟩), .int .i64 (at' : Int), v] w (NdEnd w (In.nodeP N L τ x)) := by
  obtain ⟨c0, c1, c2, c3, c4, c5, cz⟩ := hI.cells
  obtain ⟨an, cn, rfl⟩ := hI.no.form
  obtain ⟨nb, no, rfl, hcn, hnb, hnd⟩ := hI.no.at hx
  have q0 := hnd 0 _ rfl
  rw [Nat.add_zero] at q0
  have q1 := hnd 1 _ rfl
  have q2 := hnd 2 _ rfl
  have q3 := hnd 3 _ rfl
  have q4 := hnd 4 _ rfl
  have q5 := hnd 5 _ rfl
  have q6 := hnd 6 _ rfl
  have q7 := hnd 7 _ rfl
  have hat : at' < l.length := (List.getElem?_eq_some_iff.1 hx).1
  have hat' : (at' : Int) < (l.length : Int) := by omega
  have hat0 : (0 : Int) ≤ (at' : Int) := by omega
  have HE : Aside (In.nodeP N L τ x = [In.base x]) := by show _ = _; unfold In.nodeP; rw [if_neg (by omega), if_neg (by omega), if_neg (by omega), if_neg (by omega), if_neg (by omega), if_neg (by omega), if_neg (by omega)]
  obtain ⟨W, hW⟩ : ∃ W, W = (w.alloc (.cells #[.int .i8 x.kind, .int .i64 x.kids, .int .i64 x.n, .string x.s, .string x.t, .string x.u, .int .i64 x.ln, .int .i64 x.co] 72)).alloc (.cells #[.int .i8 x.kind, .int .i64 x.kids, .int .i64 0, .string ⟨#[]⟩, .string ⟨#[]⟩, .string ⟨#[]⟩, .int .i64 x.ln, .int .i64 x.co] 72) := ⟨_, rfl⟩
  have hT : Two2 w W x (In.base x) := by
    rw [hW]
    exact ⟨((Below.refl _ _).alloc (Nat.le_refl _) _).alloc (by simp) _, by simp, (Below.heap_alloc _ _ _ (by simp)).trans (heap_alloc_new _ _), heap_two w _ _⟩
  have x0 := (block_cells hT.b0).1 0
  have x2 := (block_cells hT.b0).1 2
  have x3 := (block_cells hT.b0).1 3
  have x4 := (block_cells hT.b0).1 4
  have x5 := (block_cells hT.b0).1 5
  have xz := (block_cells hT.b1).2
  simp only [Tr.ncells, List.getElem?_toArray, List.getElem?_cons_zero, List.getElem?_cons_succ] at x0 x2 x3 x4 x5
  have e1 : (x.kind == 1) = false := by simpa using (show x.kind ≠ 1 by omega)
  have e3 : (x.kind == 3) = false := by simpa using (show x.kind ≠ 3 by omega)
  have e2 : (x.kind == 2) = false := by simpa using (show x.kind ≠ 2 by omega)
  have e4 : (x.kind == 4) = false := by simpa using (show x.kind ≠ 4 by omega)
  have e5 : (x.kind == 5) = false := by simpa using (show x.kind ≠ 5 by omega)
  have e6 : (x.kind == 6) = false := by simpa using (show x.kind ≠ 6 by omega)
  have e8 : (x.kind == 8) = false := by simpa using (show x.kind ≠ 8 by omega)
  have e21 : (x.kind == 21) = false := by simpa using (show x.kind ≠ 21 by omega)
  have e29 : (x.kind == 29) = false := by simpa using (show x.kind ≠ 29 by omega)
  go_enter Tryz.func62, Tryz.ntmps62
  go_upto_region 3 with fail
  rw [← hW]
  have hT2 := hT
  have z0 := (block_cells hT.b1).1 0
  have z1 := (block_cells hT.b1).1 1
  have z2 := (block_cells hT.b1).1 2
  have z3 := (block_cells hT.b1).1 3
  have z4 := (block_cells hT.b1).1 4
  have z5 := (block_cells hT.b1).1 5
  have z6 := (block_cells hT.b1).1 6
  have z7 := (block_cells hT.b1).1 7
  simp only [Tr.ncells, In.base, List.getElem?_toArray, List.getElem?_cons_zero, List.getElem?_cons_succ] at z0 z1 z2 z3 z4 z5 z6 z7
  clear hW
  have HB := hT2.bl
  go_wp2_with fail
  go_ret
  rw [HE.out]
  exact nd_end rfl HB

set_option maxHeartbeats 8000000 in
theorem node_n1 (B ib fb i at' : Nat) (sv nv tv v : Value) (md : ByteArray) (l : List Nd) (ts : List Ty) (N L : List (List UInt8)) (ss : List In.Si) (x : Nd) (τ : Ty) (w : World) (hI : In.Is B w ib sv md nv tv l ts N fb i ss) (hx : l[at']? = some x) (hτ : ts[at']? = some τ) (h64 : (enc τ).length ≤ 64) (hl : l.length ≤ 100000) (hs : x.s.size ≤ maxLen) (hN : N.length ≤ 1000) (hL : L.length ≤ 100000) (hv : IsAr w v L) (hk : x.kind = 1) :
    Calls Tryz.prog 62 #[.pointer (some ⟨ib, 0, none⟩), .int .i64 (at' : Int), v] w (NdEnd w (In.nodeP N L τ x)) := by
  obtain ⟨c0, c1, c2, c3, c4, c5, cz⟩ := hI.cells
  obtain ⟨an, cn, rfl⟩ := hI.no.form
  obtain ⟨nb, no, rfl, hcn, hnb, hnd⟩ := hI.no.at hx
  have q0 := hnd 0 _ rfl
  rw [Nat.add_zero] at q0
  have q1 := hnd 1 _ rfl
  have q2 := hnd 2 _ rfl
  have q3 := hnd 3 _ rfl
  have q4 := hnd 4 _ rfl
  have q5 := hnd 5 _ rfl
  have q6 := hnd 6 _ rfl
  have q7 := hnd 7 _ rfl
  have hat : at' < l.length := (List.getElem?_eq_some_iff.1 hx).1
  have hat' : (at' : Int) < (l.length : Int) := by omega
  have hat0 : (0 : Int) ≤ (at' : Int) := by omega
  have HE : Aside (In.nodeP N L τ x = [{ In.base x with n := x.n }]) := by show _ = _; unfold In.nodeP; rw [if_neg (by omega), if_pos (by omega)]
  obtain ⟨W, hW⟩ : ∃ W, W = (w.alloc (.cells #[.int .i8 x.kind, .int .i64 x.kids, .int .i64 x.n, .string x.s, .string x.t, .string x.u, .int .i64 x.ln, .int .i64 x.co] 72)).alloc (.cells #[.int .i8 x.kind, .int .i64 x.kids, .int .i64 0, .string ⟨#[]⟩, .string ⟨#[]⟩, .string ⟨#[]⟩, .int .i64 x.ln, .int .i64 x.co] 72) := ⟨_, rfl⟩
  have hT : Two2 w W x (In.base x) := by
    rw [hW]
    exact ⟨((Below.refl _ _).alloc (Nat.le_refl _) _).alloc (by simp) _, by simp, (Below.heap_alloc _ _ _ (by simp)).trans (heap_alloc_new _ _), heap_two w _ _⟩
  have x0 := (block_cells hT.b0).1 0
  have x2 := (block_cells hT.b0).1 2
  have x3 := (block_cells hT.b0).1 3
  have x4 := (block_cells hT.b0).1 4
  have x5 := (block_cells hT.b0).1 5
  have xz := (block_cells hT.b1).2
  simp only [Tr.ncells, List.getElem?_toArray, List.getElem?_cons_zero, List.getElem?_cons_succ] at x0 x2 x3 x4 x5
  have e3 : (x.kind == 3) = false := by simpa using (show x.kind ≠ 3 by omega)
  have e2 : (x.kind == 2) = false := by simpa using (show x.kind ≠ 2 by omega)
  have e4 : (x.kind == 4) = false := by simpa using (show x.kind ≠ 4 by omega)
  have e5 : (x.kind == 5) = false := by simpa using (show x.kind ≠ 5 by omega)
  have e6 : (x.kind == 6) = false := by simpa using (show x.kind ≠ 6 by omega)
  have e8 : (x.kind == 8) = false := by simpa using (show x.kind ≠ 8 by omega)
  have e21 : (x.kind == 21) = false := by simpa using (show x.kind ≠ 21 by omega)
  have e29 : (x.kind == 29) = false := by simpa using (show x.kind ≠ 29 by omega)
  have HK : Aside (x.kind = 1) := hk
  replace x0 := x0.trans (congrArg (fun z => some (Value.int .i8 z)) hk)
  clear hk
  go_enter Tryz.func62, Tryz.ntmps62
  go_upto_region 3 with fail
  rw [← hW]
  have hT2 : Two2 w (W.setCell ⟨w.heap.size + 1, 2, none⟩ (.int .i64 x.n)) x { In.base x with n := x.n } := hT.set rfl
  have z0 := (block_cells hT.b1).1 0
  have z1 := (block_cells hT.b1).1 1
  have z2 := (block_cells hT.b1).1 2
  have z3 := (block_cells hT.b1).1 3
  have z4 := (block_cells hT.b1).1 4
  have z5 := (block_cells hT.b1).1 5
  have z6 := (block_cells hT.b1).1 6
  have z7 := (block_cells hT.b1).1 7
  simp only [Tr.ncells, In.base, List.getElem?_toArray, List.getElem?_cons_zero, List.getElem?_cons_succ] at z0 z1 z2 z3 z4 z5 z6 z7
  clear hW
  have HB := hT2.bl
  go_wp2_with fail
  go_ret
  rw [HE.out]
  exact nd_endX rfl HB (by simp [World.setCell]) (by simp [Tr.ncells, In.base, HK.out])

set_option maxHeartbeats 8000000 in
theorem node_n3 (B ib fb i at' : Nat) (sv nv tv v : Value) (md : ByteArray) (l : List Nd) (ts : List Ty) (N L : List (List UInt8)) (ss : List In.Si) (x : Nd) (τ : Ty) (w : World) (hI : In.Is B w ib sv md nv tv l ts N fb i ss) (hx : l[at']? = some x) (hτ : ts[at']? = some τ) (h64 : (enc τ).length ≤ 64) (hl : l.length ≤ 100000) (hs : x.s.size ≤ maxLen) (hN : N.length ≤ 1000) (hL : L.length ≤ 100000) (hv : IsAr w v L) (hk : x.kind = 3) :
    Calls Tryz.prog 62 #[.pointer (some ⟨ib, 0, none⟩), .int .i64 (at' : Int), v] w (NdEnd w (In.nodeP N L τ x)) := by
  obtain ⟨c0, c1, c2, c3, c4, c5, cz⟩ := hI.cells
  obtain ⟨an, cn, rfl⟩ := hI.no.form
  obtain ⟨nb, no, rfl, hcn, hnb, hnd⟩ := hI.no.at hx
  have q0 := hnd 0 _ rfl
  rw [Nat.add_zero] at q0
  have q1 := hnd 1 _ rfl
  have q2 := hnd 2 _ rfl
  have q3 := hnd 3 _ rfl
  have q4 := hnd 4 _ rfl
  have q5 := hnd 5 _ rfl
  have q6 := hnd 6 _ rfl
  have q7 := hnd 7 _ rfl
  have hat : at' < l.length := (List.getElem?_eq_some_iff.1 hx).1
  have hat' : (at' : Int) < (l.length : Int) := by omega
  have hat0 : (0 : Int) ≤ (at' : Int) := by omega
  have HE : Aside (In.nodeP N L τ x = [{ In.base x with n := x.n }]) := by show _ = _; unfold In.nodeP; rw [if_neg (by omega), if_pos (by omega)]
  obtain ⟨W, hW⟩ : ∃ W, W = (w.alloc (.cells #[.int .i8 x.kind, .int .i64 x.kids, .int .i64 x.n, .string x.s, .string x.t, .string x.u, .int .i64 x.ln, .int .i64 x.co] 72)).alloc (.cells #[.int .i8 x.kind, .int .i64 x.kids, .int .i64 0, .string ⟨#[]⟩, .string ⟨#[]⟩, .string ⟨#[]⟩, .int .i64 x.ln, .int .i64 x.co] 72) := ⟨_, rfl⟩
  have hT : Two2 w W x (In.base x) := by
    rw [hW]
    exact ⟨((Below.refl _ _).alloc (Nat.le_refl _) _).alloc (by simp) _, by simp, (Below.heap_alloc _ _ _ (by simp)).trans (heap_alloc_new _ _), heap_two w _ _⟩
  have x0 := (block_cells hT.b0).1 0
  have x2 := (block_cells hT.b0).1 2
  have x3 := (block_cells hT.b0).1 3
  have x4 := (block_cells hT.b0).1 4
  have x5 := (block_cells hT.b0).1 5
  have xz := (block_cells hT.b1).2
  simp only [Tr.ncells, List.getElem?_toArray, List.getElem?_cons_zero, List.getElem?_cons_succ] at x0 x2 x3 x4 x5
  have e1 : (x.kind == 1) = false := by simpa using (show x.kind ≠ 1 by omega)
  have e2 : (x.kind == 2) = false := by simpa using (show x.kind ≠ 2 by omega)
  have e4 : (x.kind == 4) = false := by simpa using (show x.kind ≠ 4 by omega)
  have e5 : (x.kind == 5) = false := by simpa using (show x.kind ≠ 5 by omega)
  have e6 : (x.kind == 6) = false := by simpa using (show x.kind ≠ 6 by omega)
  have e8 : (x.kind == 8) = false := by simpa using (show x.kind ≠ 8 by omega)
  have e21 : (x.kind == 21) = false := by simpa using (show x.kind ≠ 21 by omega)
  have e29 : (x.kind == 29) = false := by simpa using (show x.kind ≠ 29 by omega)
  have HK : Aside (x.kind = 3) := hk
  replace x0 := x0.trans (congrArg (fun z => some (Value.int .i8 z)) hk)
  clear hk
  go_enter Tryz.func62, Tryz.ntmps62
  go_upto_region 3 with fail
  rw [← hW]
  have hT2 : Two2 w (W.setCell ⟨w.heap.size + 1, 2, none⟩ (.int .i64 x.n)) x { In.base x with n := x.n } := hT.set rfl
  have z0 := (block_cells hT.b1).1 0
  have z1 := (block_cells hT.b1).1 1
  have z2 := (block_cells hT.b1).1 2
  have z3 := (block_cells hT.b1).1 3
  have z4 := (block_cells hT.b1).1 4
  have z5 := (block_cells hT.b1).1 5
  have z6 := (block_cells hT.b1).1 6
  have z7 := (block_cells hT.b1).1 7
  simp only [Tr.ncells, In.base, List.getElem?_toArray, List.getElem?_cons_zero, List.getElem?_cons_succ] at z0 z1 z2 z3 z4 z5 z6 z7
  clear hW
  have HB := hT2.bl
  go_wp2_with fail
  go_ret
  rw [HE.out]
  exact nd_endX rfl HB (by simp [World.setCell]) (by simp [Tr.ncells, In.base, HK.out])

set_option maxHeartbeats 8000000 in
theorem node_s (B ib fb i at' : Nat) (sv nv tv v : Value) (md : ByteArray) (l : List Nd) (ts : List Ty) (N L : List (List UInt8)) (ss : List In.Si) (x : Nd) (τ : Ty) (w : World) (hI : In.Is B w ib sv md nv tv l ts N fb i ss) (hx : l[at']? = some x) (hτ : ts[at']? = some τ) (h64 : (enc τ).length ≤ 64) (hl : l.length ≤ 100000) (hs : x.s.size ≤ maxLen) (hN : N.length ≤ 1000) (hL : L.length ≤ 100000) (hv : IsAr w v L) (hk : x.kind = 2) :
    Calls Tryz.prog 62 #[.pointer (some ⟨ib, 0, none⟩), .int .i64 (at' : Int), v] w (NdEnd w (In.nodeP N L τ x)) := by
  obtain ⟨c0, c1, c2, c3, c4, c5, cz⟩ := hI.cells
  obtain ⟨an, cn, rfl⟩ := hI.no.form
  obtain ⟨nb, no, rfl, hcn, hnb, hnd⟩ := hI.no.at hx
  have q0 := hnd 0 _ rfl
  rw [Nat.add_zero] at q0
  have q1 := hnd 1 _ rfl
  have q2 := hnd 2 _ rfl
  have q3 := hnd 3 _ rfl
  have q4 := hnd 4 _ rfl
  have q5 := hnd 5 _ rfl
  have q6 := hnd 6 _ rfl
  have q7 := hnd 7 _ rfl
  have hat : at' < l.length := (List.getElem?_eq_some_iff.1 hx).1
  have hat' : (at' : Int) < (l.length : Int) := by omega
  have hat0 : (0 : Int) ≤ (at' : Int) := by omega
  have HE : Aside (In.nodeP N L τ x = [{ In.base x with s := x.s }]) := by show _ = _; unfold In.nodeP; rw [if_neg (by omega), if_neg (by omega), if_pos (by omega)]
  obtain ⟨W, hW⟩ : ∃ W, W = (w.alloc (.cells #[.int .i8 x.kind, .int .i64 x.kids, .int .i64 x.n, .string x.s, .string x.t, .string x.u, .int .i64 x.ln, .int .i64 x.co] 72)).alloc (.cells #[.int .i8 x.kind, .int .i64 x.kids, .int .i64 0, .string ⟨#[]⟩, .string ⟨#[]⟩, .string ⟨#[]⟩, .int .i64 x.ln, .int .i64 x.co] 72) := ⟨_, rfl⟩
  have hT : Two2 w W x (In.base x) := by
    rw [hW]
    exact ⟨((Below.refl _ _).alloc (Nat.le_refl _) _).alloc (by simp) _, by simp, (Below.heap_alloc _ _ _ (by simp)).trans (heap_alloc_new _ _), heap_two w _ _⟩
  have x0 := (block_cells hT.b0).1 0
  have x2 := (block_cells hT.b0).1 2
  have x3 := (block_cells hT.b0).1 3
  have x4 := (block_cells hT.b0).1 4
  have x5 := (block_cells hT.b0).1 5
  have xz := (block_cells hT.b1).2
  simp only [Tr.ncells, List.getElem?_toArray, List.getElem?_cons_zero, List.getElem?_cons_succ] at x0 x2 x3 x4 x5
  have e1 : (x.kind == 1) = false := by simpa using (show x.kind ≠ 1 by omega)
  have e3 : (x.kind == 3) = false := by simpa using (show x.kind ≠ 3 by omega)
  have e4 : (x.kind == 4) = false := by simpa using (show x.kind ≠ 4 by omega)
  have e5 : (x.kind == 5) = false := by simpa using (show x.kind ≠ 5 by omega)
  have e6 : (x.kind == 6) = false := by simpa using (show x.kind ≠ 6 by omega)
  have e8 : (x.kind == 8) = false := by simpa using (show x.kind ≠ 8 by omega)
  have e21 : (x.kind == 21) = false := by simpa using (show x.kind ≠ 21 by omega)
  have e29 : (x.kind == 29) = false := by simpa using (show x.kind ≠ 29 by omega)
  have HK : Aside (x.kind = 2) := hk
  replace x0 := x0.trans (congrArg (fun z => some (Value.int .i8 z)) hk)
  clear hk
  go_enter Tryz.func62, Tryz.ntmps62
  go_upto_region 3 with fail
  rw [← hW]
  have hT2 : Two2 w (W.setCell ⟨w.heap.size + 1, 3, none⟩ (.string x.s)) x { In.base x with s := x.s } := hT.set rfl
  have z0 := (block_cells hT.b1).1 0
  have z1 := (block_cells hT.b1).1 1
  have z2 := (block_cells hT.b1).1 2
  have z3 := (block_cells hT.b1).1 3
  have z4 := (block_cells hT.b1).1 4
  have z5 := (block_cells hT.b1).1 5
  have z6 := (block_cells hT.b1).1 6
  have z7 := (block_cells hT.b1).1 7
  simp only [Tr.ncells, In.base, List.getElem?_toArray, List.getElem?_cons_zero, List.getElem?_cons_succ] at z0 z1 z2 z3 z4 z5 z6 z7
  clear hW
  have HB := hT2.bl
  go_wp2_with fail
  go_ret
  rw [HE.out]
  exact nd_endX rfl HB (by simp [World.setCell]) (by simp [Tr.ncells, In.base, HK.out])

set_option maxHeartbeats 8000000 in
theorem node_v (B ib fb i at' : Nat) (sv nv tv v : Value) (md : ByteArray) (l : List Nd) (ts : List Ty) (N L : List (List UInt8)) (ss : List In.Si) (x : Nd) (τ : Ty) (w : World) (hI : In.Is B w ib sv md nv tv l ts N fb i ss) (hx : l[at']? = some x) (hτ : ts[at']? = some τ) (h64 : (enc τ).length ≤ 64) (hl : l.length ≤ 100000) (hs : x.s.size ≤ maxLen) (hN : N.length ≤ 1000) (hL : L.length ≤ 100000) (hv : IsAr w v L) (hk : x.kind = 4) :
    Calls Tryz.prog 62 #[.pointer (some ⟨ib, 0, none⟩), .int .i64 (at' : Int), v] w (NdEnd w (In.nodeP N L τ x)) := by
  obtain ⟨c0, c1, c2, c3, c4, c5, cz⟩ := hI.cells
  obtain ⟨an, cn, rfl⟩ := hI.no.form
  obtain ⟨nb, no, rfl, hcn, hnb, hnd⟩ := hI.no.at hx
  have q0 := hnd 0 _ rfl
  rw [Nat.add_zero] at q0
  have q1 := hnd 1 _ rfl
  have q2 := hnd 2 _ rfl
  have q3 := hnd 3 _ rfl
  have q4 := hnd 4 _ rfl
  have q5 := hnd 5 _ rfl
  have q6 := hnd 6 _ rfl
  have q7 := hnd 7 _ rfl
  have hat : at' < l.length := (List.getElem?_eq_some_iff.1 hx).1
  have hat' : (at' : Int) < (l.length : Int) := by omega
  have hat0 : (0 : Int) ≤ (at' : Int) := by omega
  have HE : Aside (In.nodeP N L τ x = [{ In.base x with n := (In.dist N L (nm x) : Int) }]) := by show _ = _; unfold In.nodeP; rw [if_neg (by omega), if_neg (by omega), if_neg (by omega), if_pos (by omega)]
  obtain ⟨W, hW⟩ : ∃ W, W = (w.alloc (.cells #[.int .i8 x.kind, .int .i64 x.kids, .int .i64 x.n, .string x.s, .string x.t, .string x.u, .int .i64 x.ln, .int .i64 x.co] 72)).alloc (.cells #[.int .i8 x.kind, .int .i64 x.kids, .int .i64 0, .string ⟨#[]⟩, .string ⟨#[]⟩, .string ⟨#[]⟩, .int .i64 x.ln, .int .i64 x.co] 72) := ⟨_, rfl⟩
  have hT : Two2 w W x (In.base x) := by
    rw [hW]
    exact ⟨((Below.refl _ _).alloc (Nat.le_refl _) _).alloc (by simp) _, by simp, (Below.heap_alloc _ _ _ (by simp)).trans (heap_alloc_new _ _), heap_two w _ _⟩
  have x0 := (block_cells hT.b0).1 0
  have x2 := (block_cells hT.b0).1 2
  have x3 := (block_cells hT.b0).1 3
  have x4 := (block_cells hT.b0).1 4
  have x5 := (block_cells hT.b0).1 5
  have xz := (block_cells hT.b1).2
  simp only [Tr.ncells, List.getElem?_toArray, List.getElem?_cons_zero, List.getElem?_cons_succ] at x0 x2 x3 x4 x5
  have e1 : (x.kind == 1) = false := by simpa using (show x.kind ≠ 1 by omega)
  have e3 : (x.kind == 3) = false := by simpa using (show x.kind ≠ 3 by omega)
  have e2 : (x.kind == 2) = false := by simpa using (show x.kind ≠ 2 by omega)
  have e5 : (x.kind == 5) = false := by simpa using (show x.kind ≠ 5 by omega)
  have e6 : (x.kind == 6) = false := by simpa using (show x.kind ≠ 6 by omega)
  have e8 : (x.kind == 8) = false := by simpa using (show x.kind ≠ 8 by omega)
  have e21 : (x.kind == 21) = false := by simpa using (show x.kind ≠ 21 by omega)
  have e29 : (x.kind == 29) = false := by simpa using (show x.kind ≠ 29 by omega)
  have HK : Aside (x.kind = 4) := hk
  replace x0 := x0.trans (congrArg (fun z => some (Value.int .i8 z)) hk)
  clear hk
  go_enter Tryz.func62, Tryz.ntmps62
  go_upto_region 3 with fail
  rw [← hW]
  have hT2 : Two2 w (W.setCell ⟨w.heap.size + 1, 2, none⟩ (.int .i64 (In.dist N L (nm x) : Int))) x { In.base x with n := (In.dist N L (nm x) : Int) } := hT.set rfl
  have hIW := hI.below hT.bl
  have hdi := distance_any N L hN hL x.s hs v W ib fb hIW.farD (hv.below hT.bl).texts
  rw [show x.s.data.toList = nm x from rfl] at hdi
  generalize (In.dist N L (nm x) : Int) = dd at *
  have z0 := (block_cells hT.b1).1 0
  have z1 := (block_cells hT.b1).1 1
  have z2 := (block_cells hT.b1).1 2
  have z3 := (block_cells hT.b1).1 3
  have z4 := (block_cells hT.b1).1 4
  have z5 := (block_cells hT.b1).1 5
  have z6 := (block_cells hT.b1).1 6
  have z7 := (block_cells hT.b1).1 7
  simp only [Tr.ncells, In.base, List.getElem?_toArray, List.getElem?_cons_zero, List.getElem?_cons_succ] at z0 z1 z2 z3 z4 z5 z6 z7
  clear hW
  have HB := hT2.bl
  go_wp2_with (go_at_call 118; refine hdi.mono ?_; rintro e w9 ⟨rfl, hw9⟩; replace hw9 := hw9.symm; subst hw9)
  go_ret
  rw [HE.out]
  exact nd_endX rfl HB (by simp [World.setCell]) (by simp [Tr.ncells, In.base, HK.out])

set_option maxHeartbeats 8000000 in
theorem node_l (B ib fb i at' : Nat) (sv nv tv v : Value) (md : ByteArray) (l : List Nd) (ts : List Ty) (N L : List (List UInt8)) (ss : List In.Si) (x : Nd) (τ : Ty) (w : World) (hI : In.Is B w ib sv md nv tv l ts N fb i ss) (hx : l[at']? = some x) (hτ : ts[at']? = some τ) (h64 : (enc τ).length ≤ 64) (hl : l.length ≤ 100000) (hs : x.s.size ≤ maxLen) (hN : N.length ≤ 1000) (hL : L.length ≤ 100000) (hv : IsAr w v L) (hk : x.kind = 8) :
    Calls Tryz.prog 62 #[.pointer (some ⟨ib, 0, none⟩), .int .i64 (at' : Int), v] w (NdEnd w (In.nodeP N L τ x)) := by
  obtain ⟨c0, c1, c2, c3, c4, c5, cz⟩ := hI.cells
  obtain ⟨an, cn, rfl⟩ := hI.no.form
  obtain ⟨nb, no, rfl, hcn, hnb, hnd⟩ := hI.no.at hx
  have q0 := hnd 0 _ rfl
  rw [Nat.add_zero] at q0
  have q1 := hnd 1 _ rfl
  have q2 := hnd 2 _ rfl
  have q3 := hnd 3 _ rfl
  have q4 := hnd 4 _ rfl
  have q5 := hnd 5 _ rfl
  have q6 := hnd 6 _ rfl
  have q7 := hnd 7 _ rfl
  have hat : at' < l.length := (List.getElem?_eq_some_iff.1 hx).1
  have hat' : (at' : Int) < (l.length : Int) := by omega
  have hat0 : (0 : Int) ≤ (at' : Int) := by omega
  have HE : Aside (In.nodeP N L τ x = [{ In.base x with t := In.wrS x.t }]) := by show _ = _; unfold In.nodeP; rw [if_neg (by omega), if_neg (by omega), if_neg (by omega), if_neg (by omega), if_neg (by omega), if_pos (by omega)]
  obtain ⟨W, hW⟩ : ∃ W, W = (w.alloc (.cells #[.int .i8 x.kind, .int .i64 x.kids, .int .i64 x.n, .string x.s, .string x.t, .string x.u, .int .i64 x.ln, .int .i64 x.co] 72)).alloc (.cells #[.int .i8 x.kind, .int .i64 x.kids, .int .i64 0, .string ⟨#[]⟩, .string ⟨#[]⟩, .string ⟨#[]⟩, .int .i64 x.ln, .int .i64 x.co] 72) := ⟨_, rfl⟩
  have hT : Two2 w W x (In.base x) := by
    rw [hW]
    exact ⟨((Below.refl _ _).alloc (Nat.le_refl _) _).alloc (by simp) _, by simp, (Below.heap_alloc _ _ _ (by simp)).trans (heap_alloc_new _ _), heap_two w _ _⟩
  have x0 := (block_cells hT.b0).1 0
  have x2 := (block_cells hT.b0).1 2
  have x3 := (block_cells hT.b0).1 3
  have x4 := (block_cells hT.b0).1 4
  have x5 := (block_cells hT.b0).1 5
  have xz := (block_cells hT.b1).2
  simp only [Tr.ncells, List.getElem?_toArray, List.getElem?_cons_zero, List.getElem?_cons_succ] at x0 x2 x3 x4 x5
  have e1 : (x.kind == 1) = false := by simpa using (show x.kind ≠ 1 by omega)
  have e3 : (x.kind == 3) = false := by simpa using (show x.kind ≠ 3 by omega)
  have e2 : (x.kind == 2) = false := by simpa using (show x.kind ≠ 2 by omega)
  have e4 : (x.kind == 4) = false := by simpa using (show x.kind ≠ 4 by omega)
  have e5 : (x.kind == 5) = false := by simpa using (show x.kind ≠ 5 by omega)
  have e6 : (x.kind == 6) = false := by simpa using (show x.kind ≠ 6 by omega)
  have e21 : (x.kind == 21) = false := by simpa using (show x.kind ≠ 21 by omega)
  have e29 : (x.kind == 29) = false := by simpa using (show x.kind ≠ 29 by omega)
  have HK : Aside (x.kind = 8) := hk
  replace x0 := x0.trans (congrArg (fun z => some (Value.int .i8 z)) hk)
  clear hk
  go_enter Tryz.func62, Tryz.ntmps62
  go_upto_region 3 with fail
  rw [← hW]
  have hT2 : Two2 w (W.setCell ⟨w.heap.size + 1, 4, none⟩ (.string (In.wrS x.t))) x { In.base x with t := In.wrS x.t } := hT.set rfl
  have z0 := (block_cells hT.b1).1 0
  have z1 := (block_cells hT.b1).1 1
  have z2 := (block_cells hT.b1).1 2
  have z3 := (block_cells hT.b1).1 3
  have z4 := (block_cells hT.b1).1 4
  have z5 := (block_cells hT.b1).1 5
  have z6 := (block_cells hT.b1).1 6
  have z7 := (block_cells hT.b1).1 7
  simp only [Tr.ncells, In.base, List.getElem?_toArray, List.getElem?_cons_zero, List.getElem?_cons_succ] at z0 z1 z2 z3 z4 z5 z6 z7
  clear hW
  have HB := hT2.bl
  go_wp2_with (go_at_call 119; refine (inWritten_any _ _).mono ?_; rintro e w9 ⟨rfl, hw9⟩; replace hw9 := hw9.symm; subst hw9)
  go_ret
  rw [HE.out]
  exact nd_endX rfl HB (by simp [World.setCell]) (by simp [Tr.ncells, In.base, HK.out])

set_option maxHeartbeats 8000000 in
theorem node_a (B ib fb i at' : Nat) (sv nv tv v : Value) (md : ByteArray) (l : List Nd) (ts : List Ty) (N L : List (List UInt8)) (ss : List In.Si) (x : Nd) (τ : Ty) (w : World) (hI : In.Is B w ib sv md nv tv l ts N fb i ss) (hx : l[at']? = some x) (hτ : ts[at']? = some τ) (h64 : (enc τ).length ≤ 64) (hl : l.length ≤ 100000) (hs : x.s.size ≤ maxLen) (hN : N.length ≤ 1000) (hL : L.length ≤ 100000) (hv : IsAr w v L) (hk : x.kind = 29) :
    Calls Tryz.prog 62 #[.pointer (some ⟨ib, 0, none⟩), .int .i64 (at' : Int), v] w (NdEnd w (In.nodeP N L τ x)) := by
  obtain ⟨c0, c1, c2, c3, c4, c5, cz⟩ := hI.cells
  obtain ⟨an, cn, rfl⟩ := hI.no.form
  obtain ⟨nb, no, rfl, hcn, hnb, hnd⟩ := hI.no.at hx
  have q0 := hnd 0 _ rfl
  rw [Nat.add_zero] at q0
  have q1 := hnd 1 _ rfl
  have q2 := hnd 2 _ rfl
  have q3 := hnd 3 _ rfl
  have q4 := hnd 4 _ rfl
  have q5 := hnd 5 _ rfl
  have q6 := hnd 6 _ rfl
  have q7 := hnd 7 _ rfl
  have hat : at' < l.length := (List.getElem?_eq_some_iff.1 hx).1
  have hat' : (at' : Int) < (l.length : Int) := by omega
  have hat0 : (0 : Int) ≤ (at' : Int) := by omega
  have HE : Aside (In.nodeP N L τ x = []) := by show _ = _; unfold In.nodeP; rw [if_pos hk]
  obtain ⟨W, hW⟩ : ∃ W, W = (w.alloc (.cells #[.int .i8 x.kind, .int .i64 x.kids, .int .i64 x.n, .string x.s, .string x.t, .string x.u, .int .i64 x.ln, .int .i64 x.co] 72)).alloc (.cells #[.int .i8 x.kind, .int .i64 x.kids, .int .i64 0, .string ⟨#[]⟩, .string ⟨#[]⟩, .string ⟨#[]⟩, .int .i64 x.ln, .int .i64 x.co] 72) := ⟨_, rfl⟩
  have hT : Two2 w W x (In.base x) := by
    rw [hW]
    exact ⟨((Below.refl _ _).alloc (Nat.le_refl _) _).alloc (by simp) _, by simp, (Below.heap_alloc _ _ _ (by simp)).trans (heap_alloc_new _ _), heap_two w _ _⟩
  have x0 := (block_cells hT.b0).1 0
  have x2 := (block_cells hT.b0).1 2
  have x3 := (block_cells hT.b0).1 3
  have x4 := (block_cells hT.b0).1 4
  have x5 := (block_cells hT.b0).1 5
  have xz := (block_cells hT.b1).2
  simp only [Tr.ncells, List.getElem?_toArray, List.getElem?_cons_zero, List.getElem?_cons_succ] at x0 x2 x3 x4 x5
  have e1 : (x.kind == 1) = false := by simpa using (show x.kind ≠ 1 by omega)
  have e3 : (x.kind == 3) = false := by simpa using (show x.kind ≠ 3 by omega)
  have e2 : (x.kind == 2) = false := by simpa using (show x.kind ≠ 2 by omega)
  have e4 : (x.kind == 4) = false := by simpa using (show x.kind ≠ 4 by omega)
  have e5 : (x.kind == 5) = false := by simpa using (show x.kind ≠ 5 by omega)
  have e6 : (x.kind == 6) = false := by simpa using (show x.kind ≠ 6 by omega)
  have e8 : (x.kind == 8) = false := by simpa using (show x.kind ≠ 8 by omega)
  have e21 : (x.kind == 21) = false := by simpa using (show x.kind ≠ 21 by omega)
  have HK : Aside (x.kind = 29) := hk
  replace x0 := x0.trans (congrArg (fun z => some (Value.int .i8 z)) hk)
  clear hk
  go_enter Tryz.func62, Tryz.ntmps62
  go_upto_region 3 with fail
  rw [← hW]
  clear hW
  have HB := hT.bl
  go_wp2_with fail
  go_ret
  rw [HE.out]
  exact ⟨_, rfl, own_nil _ _ _ _, HB⟩
end Go.Proofs.YthdlfeejeboboaaGreatDoor
namespace Go.Proofs.YthdlfeejeboboaaGreatDoor
open Go.RowKit Go.Maps Ck
open T3.Tp (Ty enc cns met)
open Tr (T Nd nm flat flats)
set_option maxRecDepth 100000
set_option linter.unusedSimpArgs false
set_option linter.unusedVariables false

structure Two3 (w W : World) (x : Nd) : Prop where
  bl : Below w.heap.size w W
  b1 : W.heap[w.heap.size + 1]? = some (.cells (Tr.ncells (In.base x)).toArray 72 (0, 0))

set_option maxHeartbeats 8000000 in
theorem node_f5 (B ib fb i at' : Nat) (sv nv tv v : Value) (md : ByteArray) (l : List Nd) (ts : List Ty) (N L : List (List UInt8)) (ss : List In.Si) (x : Nd) (τ : Ty) (w : World) (hI : In.Is B w ib sv md nv tv l ts N fb i ss) (hx : l[at']? = some x) (hτ : ts[at']? = some τ) (h64 : (enc τ).length ≤ 64) (hl : l.length ≤ 100000) (hs : x.s.size ≤ maxLen) (hN : N.length ≤ 1000) (hL : L.length ≤ 100000) (hv : IsAr w v L) (hk : x.kind = 5) :
    Calls Tryz.prog 62 #[.pointer (some ⟨ib, 0, none⟩), .int .i64 (at' : Int), v] w (NdEnd w (In.nodeP N L τ x)) := by
  obtain ⟨c0, c1, c2, c3, c4, c5, cz⟩ := hI.cells
  obtain ⟨an, cn, rfl⟩ := hI.no.form
  obtain ⟨nb, no, rfl, hcn, hnb, hnd⟩ := hI.no.at hx
  have q0 := hnd 0 _ rfl
  rw [Nat.add_zero] at q0
  have q1 := hnd 1 _ rfl
  have q2 := hnd 2 _ rfl
  have q3 := hnd 3 _ rfl
  have q4 := hnd 4 _ rfl
  have q5 := hnd 5 _ rfl
  have q6 := hnd 6 _ rfl
  have q7 := hnd 7 _ rfl
  have hat : at' < l.length := (List.getElem?_eq_some_iff.1 hx).1
  have hat' : (at' : Int) < (l.length : Int) := by omega
  have hat0 : (0 : Int) ≤ (at' : Int) := by omega
  have HE : Aside (In.nodeP N L τ x = [{ In.base x with t := In.wrS x.t, u := In.wrS x.u }]) := by show _ = _; unfold In.nodeP; rw [if_neg (by omega), if_neg (by omega), if_neg (by omega), if_neg (by omega), if_pos (by omega)]
  obtain ⟨W, hW⟩ : ∃ W, W = (w.alloc (.cells #[.int .i8 x.kind, .int .i64 x.kids, .int .i64 x.n, .string x.s, .string x.t, .string x.u, .int .i64 x.ln, .int .i64 x.co] 72)).alloc (.cells #[.int .i8 x.kind, .int .i64 x.kids, .int .i64 0, .string ⟨#[]⟩, .string ⟨#[]⟩, .string ⟨#[]⟩, .int .i64 x.ln, .int .i64 x.co] 72) := ⟨_, rfl⟩
  have hT : Two2 w W x (In.base x) := by
    rw [hW]
    exact ⟨((Below.refl _ _).alloc (Nat.le_refl _) _).alloc (by simp) _, by simp, (Below.heap_alloc _ _ _ (by simp)).trans (heap_alloc_new _ _), heap_two w _ _⟩
  have x0 := (block_cells hT.b0).1 0
  have x2 := (block_cells hT.b0).1 2
  have x3 := (block_cells hT.b0).1 3
  have x4 := (block_cells hT.b0).1 4
  have x5 := (block_cells hT.b0).1 5
  have xz := (block_cells hT.b1).2
  simp only [Tr.ncells, List.getElem?_toArray, List.getElem?_cons_zero, List.getElem?_cons_succ] at x0 x2 x3 x4 x5
  have e1 : (x.kind == 1) = false := by simpa using (show x.kind ≠ 1 by omega)
  have e3 : (x.kind == 3) = false := by simpa using (show x.kind ≠ 3 by omega)
  have e2 : (x.kind == 2) = false := by simpa using (show x.kind ≠ 2 by omega)
  have e4 : (x.kind == 4) = false := by simpa using (show x.kind ≠ 4 by omega)
  have e6 : (x.kind == 6) = false := by simpa using (show x.kind ≠ 6 by omega)
  have e8 : (x.kind == 8) = false := by simpa using (show x.kind ≠ 8 by omega)
  have e21 : (x.kind == 21) = false := by simpa using (show x.kind ≠ 21 by omega)
  have e29 : (x.kind == 29) = false := by simpa using (show x.kind ≠ 29 by omega)
  have HK : Aside (x.kind = 5) := hk
  replace x0 := x0.trans (congrArg (fun z => some (Value.int .i8 z)) hk)
  clear hk
  go_enter Tryz.func62, Tryz.ntmps62
  go_upto_region 3 with fail
  rw [← hW]
  have hT2 : Two2 w ((W.drew.setCell ⟨w.heap.size + 1, 4, none⟩ (.string (In.wrS x.t))).setCell ⟨w.heap.size + 1, 5, none⟩ (.string (In.wrS x.u))) x { In.base x with t := In.wrS x.t, u := In.wrS x.u } := (hT.drew.set (y' := { In.base x with t := In.wrS x.t }) rfl).set rfl
  have z0 := (block_cells hT.b1).1 0
  have z1 := (block_cells hT.b1).1 1
  have z2 := (block_cells hT.b1).1 2
  have z3 := (block_cells hT.b1).1 3
  have z4 := (block_cells hT.b1).1 4
  have z5 := (block_cells hT.b1).1 5
  have z6 := (block_cells hT.b1).1 6
  have z7 := (block_cells hT.b1).1 7
  simp only [Tr.ncells, In.base, List.getElem?_toArray, List.getElem?_cons_zero, List.getElem?_cons_succ] at z0 z1 z2 z3 z4 z5 z6 z7
  clear hW
  have HB := hT2.bl
  go_upto_region 13 with fail
  go_region_held3 (fun V => V.cell? ⟨w.heap.size, 4, none⟩ = some (.string x.t) ∧ V.cell? ⟨w.heap.size, 5, none⟩ = some (.string x.u)) (first | go_keep) (first | (go_at_call 119; refine (inWritten_any _ _).mono ?_; rintro e w9 ⟨rfl, hw9⟩; replace hw9 := hw9.symm; subst hw9))
  all_goals
    go_wp2_with fail
    go_ret
    rw [HE.out]
    exact nd_endX rfl HB (by simp [World.setCell]) (by simp [Tr.ncells, In.base, HK.out])

set_option maxHeartbeats 8000000 in
theorem node_f6 (B ib fb i at' : Nat) (sv nv tv v : Value) (md : ByteArray) (l : List Nd) (ts : List Ty) (N L : List (List UInt8)) (ss : List In.Si) (x : Nd) (τ : Ty) (w : World) (hI : In.Is B w ib sv md nv tv l ts N fb i ss) (hx : l[at']? = some x) (hτ : ts[at']? = some τ) (h64 : (enc τ).length ≤ 64) (hl : l.length ≤ 100000) (hs : x.s.size ≤ maxLen) (hN : N.length ≤ 1000) (hL : L.length ≤ 100000) (hv : IsAr w v L) (hk : x.kind = 6) :
    Calls Tryz.prog 62 #[.pointer (some ⟨ib, 0, none⟩), .int .i64 (at' : Int), v] w (NdEnd w (In.nodeP N L τ x)) := by
  obtain ⟨c0, c1, c2, c3, c4, c5, cz⟩ := hI.cells
  obtain ⟨an, cn, rfl⟩ := hI.no.form
  obtain ⟨nb, no, rfl, hcn, hnb, hnd⟩ := hI.no.at hx
  have q0 := hnd 0 _ rfl
  rw [Nat.add_zero] at q0
  have q1 := hnd 1 _ rfl
  have q2 := hnd 2 _ rfl
  have q3 := hnd 3 _ rfl
  have q4 := hnd 4 _ rfl
  have q5 := hnd 5 _ rfl
  have q6 := hnd 6 _ rfl
  have q7 := hnd 7 _ rfl
  have hat : at' < l.length := (List.getElem?_eq_some_iff.1 hx).1
  have hat' : (at' : Int) < (l.length : Int) := by omega
  have hat0 : (0 : Int) ≤ (at' : Int) := by omega
  have HE : Aside (In.nodeP N L τ x = [{ In.base x with t := In.wrS x.t, u := In.wrS x.u }]) := by show _ = _; unfold In.nodeP; rw [if_neg (by omega), if_neg (by omega), if_neg (by omega), if_neg (by omega), if_pos (by omega)]
  obtain ⟨W, hW⟩ : ∃ W, W = (w.alloc (.cells #[.int .i8 x.kind, .int .i64 x.kids, .int .i64 x.n, .string x.s, .string x.t, .string x.u, .int .i64 x.ln, .int .i64 x.co] 72)).alloc (.cells #[.int .i8 x.kind, .int .i64 x.kids, .int .i64 0, .string ⟨#[]⟩, .string ⟨#[]⟩, .string ⟨#[]⟩, .int .i64 x.ln, .int .i64 x.co] 72) := ⟨_, rfl⟩
  have hT : Two2 w W x (In.base x) := by
    rw [hW]
    exact ⟨((Below.refl _ _).alloc (Nat.le_refl _) _).alloc (by simp) _, by simp, (Below.heap_alloc _ _ _ (by simp)).trans (heap_alloc_new _ _), heap_two w _ _⟩
  have x0 := (block_cells hT.b0).1 0
  have x2 := (block_cells hT.b0).1 2
  have x3 := (block_cells hT.b0).1 3
  have x4 := (block_cells hT.b0).1 4
  have x5 := (block_cells hT.b0).1 5
  have xz := (block_cells hT.b1).2
  simp only [Tr.ncells, List.getElem?_toArray, List.getElem?_cons_zero, List.getElem?_cons_succ] at x0 x2 x3 x4 x5
  have e1 : (x.kind == 1) = false := by simpa using (show x.kind ≠ 1 by omega)
  have e3 : (x.kind == 3) = false := by simpa using (show x.kind ≠ 3 by omega)
  have e2 : (x.kind == 2) = false := by simpa using (show x.kind ≠ 2 by omega)
  have e4 : (x.kind == 4) = false := by simpa using (show x.kind ≠ 4 by omega)
  have e5 : (x.kind == 5) = false := by simpa using (show x.kind ≠ 5 by omega)
  have e8 : (x.kind == 8) = false := by simpa using (show x.kind ≠ 8 by omega)
  have e21 : (x.kind == 21) = false := by simpa using (show x.kind ≠ 21 by omega)
  have e29 : (x.kind == 29) = false := by simpa using (show x.kind ≠ 29 by omega)
  have HK : Aside (x.kind = 6) := hk
  replace x0 := x0.trans (congrArg (fun z => some (Value.int .i8 z)) hk)
  clear hk
  go_enter Tryz.func62, Tryz.ntmps62
  go_upto_region 3 with fail
  rw [← hW]
  have hT2 : Two2 w ((W.drew.setCell ⟨w.heap.size + 1, 4, none⟩ (.string (In.wrS x.t))).setCell ⟨w.heap.size + 1, 5, none⟩ (.string (In.wrS x.u))) x { In.base x with t := In.wrS x.t, u := In.wrS x.u } := (hT.drew.set (y' := { In.base x with t := In.wrS x.t }) rfl).set rfl
  have z0 := (block_cells hT.b1).1 0
  have z1 := (block_cells hT.b1).1 1
  have z2 := (block_cells hT.b1).1 2
  have z3 := (block_cells hT.b1).1 3
  have z4 := (block_cells hT.b1).1 4
  have z5 := (block_cells hT.b1).1 5
  have z6 := (block_cells hT.b1).1 6
  have z7 := (block_cells hT.b1).1 7
  simp only [Tr.ncells, In.base, List.getElem?_toArray, List.getElem?_cons_zero, List.getElem?_cons_succ] at z0 z1 z2 z3 z4 z5 z6 z7
  clear hW
  have HB := hT2.bl
  go_upto_region 13 with fail
  go_region_held3 (fun V => V.cell? ⟨w.heap.size, 4, none⟩ = some (.string x.t) ∧ V.cell? ⟨w.heap.size, 5, none⟩ = some (.string x.u)) (first | go_keep) (first | (go_at_call 119; refine (inWritten_any _ _).mono ?_; rintro e w9 ⟨rfl, hw9⟩; replace hw9 := hw9.symm; subst hw9))
  all_goals
    go_wp2_with fail
    go_ret
    rw [HE.out]
    exact nd_endX rfl HB (by simp [World.setCell]) (by simp [Tr.ncells, In.base, HK.out])

set_option maxHeartbeats 8000000 in
theorem node_t (B ib fb i at' : Nat) (sv nv tv v : Value) (md : ByteArray) (l : List Nd) (ts : List Ty) (N L : List (List UInt8)) (ss : List In.Si) (x : Nd) (τ : Ty) (w : World) (hI : In.Is B w ib sv md nv tv l ts N fb i ss) (hx : l[at']? = some x) (hτ : ts[at']? = some τ) (h64 : (enc τ).length ≤ 64) (hl : l.length ≤ 100000) (hs : x.s.size ≤ maxLen) (hN : N.length ≤ 1000) (hL : L.length ≤ 100000) (hv : IsAr w v L) (hk : x.kind = 21) (a : Ty) (ha : τ = .tl a) :
    Calls Tryz.prog 62 #[.pointer (some ⟨ib, 0, none⟩), .int .i64 (at' : Int), v] w (NdEnd w (In.nodeP N L τ x)) := by
  obtain ⟨c0, c1, c2, c3, c4, c5, cz⟩ := hI.cells
  obtain ⟨an, cn, rfl⟩ := hI.no.form
  obtain ⟨nb, no, rfl, hcn, hnb, hnd⟩ := hI.no.at hx
  have q0 := hnd 0 _ rfl
  rw [Nat.add_zero] at q0
  have q1 := hnd 1 _ rfl
  have q2 := hnd 2 _ rfl
  have q3 := hnd 3 _ rfl
  have q4 := hnd 4 _ rfl
  have q5 := hnd 5 _ rfl
  have q6 := hnd 6 _ rfl
  have q7 := hnd 7 _ rfl
  have hat : at' < l.length := (List.getElem?_eq_some_iff.1 hx).1
  have hat' : (at' : Int) < (l.length : Int) := by omega
  have hat0 : (0 : Int) ≤ (at' : Int) := by omega
  have HE : Aside (In.nodeP N L τ x = [{ In.base x with t := S (enc a) }]) := by show _ = _; unfold In.nodeP; rw [if_neg (by omega), if_neg (by omega), if_neg (by omega), if_neg (by omega), if_neg (by omega), if_neg (by omega), if_pos (by omega)]; rw [ha]; rfl
  obtain ⟨W, hW⟩ : ∃ W, W = (w.alloc (.cells #[.int .i8 x.kind, .int .i64 x.kids, .int .i64 x.n, .string x.s, .string x.t, .string x.u, .int .i64 x.ln, .int .i64 x.co] 72)).alloc (.cells #[.int .i8 x.kind, .int .i64 x.kids, .int .i64 0, .string ⟨#[]⟩, .string ⟨#[]⟩, .string ⟨#[]⟩, .int .i64 x.ln, .int .i64 x.co] 72) := ⟨_, rfl⟩
  have hT : Two2 w W x (In.base x) := by
    rw [hW]
    exact ⟨((Below.refl _ _).alloc (Nat.le_refl _) _).alloc (by simp) _, by simp, (Below.heap_alloc _ _ _ (by simp)).trans (heap_alloc_new _ _), heap_two w _ _⟩
  have x0 := (block_cells hT.b0).1 0
  have x2 := (block_cells hT.b0).1 2
  have x3 := (block_cells hT.b0).1 3
  have x4 := (block_cells hT.b0).1 4
  have x5 := (block_cells hT.b0).1 5
  have xz := (block_cells hT.b1).2
  simp only [Tr.ncells, List.getElem?_toArray, List.getElem?_cons_zero, List.getElem?_cons_succ] at x0 x2 x3 x4 x5
  have e1 : (x.kind == 1) = false := by simpa using (show x.kind ≠ 1 by omega)
  have e3 : (x.kind == 3) = false := by simpa using (show x.kind ≠ 3 by omega)
  have e2 : (x.kind == 2) = false := by simpa using (show x.kind ≠ 2 by omega)
  have e4 : (x.kind == 4) = false := by simpa using (show x.kind ≠ 4 by omega)
  have e5 : (x.kind == 5) = false := by simpa using (show x.kind ≠ 5 by omega)
  have e6 : (x.kind == 6) = false := by simpa using (show x.kind ≠ 6 by omega)
  have e8 : (x.kind == 8) = false := by simpa using (show x.kind ≠ 8 by omega)
  have e29 : (x.kind == 29) = false := by simpa using (show x.kind ≠ 29 by omega)
  have HK : Aside (x.kind = 21) := hk
  replace x0 := x0.trans (congrArg (fun z => some (Value.int .i8 z)) hk)
  clear hk
  go_enter Tryz.func62, Tryz.ntmps62
  go_upto_region 3 with fail
  rw [← hW]
  clear hW
  subst ha
  have hpa := fun V => T3.parts_yes (.tl a) h64 V
  have hIW := hI.below hT.bl
  obtain ⟨_, _, c2', _, _, _, _⟩ := hIW.cells
  obtain ⟨at1, ct, rfl⟩ := txs_form hIW.ty
  obtain ⟨tb, to', rfl, htc, htb, hty⟩ := hIW.type hτ
  have hkt : at' < ts.length := (List.getElem?_eq_some_iff.1 hτ).1
  have hp' : (at' : Int) < ((ts.map enc).length : Int) := by rw [List.length_map]; omega
  have HX : Aside (∀ (w1 : World) (v1 : Value), w1.ownsRow W.heap.size 9 1 v1 (T3.Tp.kids (.tl a)).length (T3.tcells ((T3.Tp.kids (.tl a)).map enc)) → Below W.heap.size W w1 → ∃ g cap, v1 = .slice (some ⟨g, 0, none⟩) 1 cap ∧ 1 ≤ cap ∧ w1.cell? ⟨g, 0, none⟩ = some (.string (S (enc a))) ∧ (∀ q, w1.frozen? ⟨w.heap.size + 1, q, none⟩ = false) ∧ Two3 w w1 x) := fun w1 v1 h1 h2 => by
    obtain ⟨g, cap, r1, r2, r3, r4⟩ := own_cells h1 (by simp [T3.Tp.kids])
    obtain ⟨k1, k2, k3⟩ := hT.below h2
    exact ⟨g, cap, r1, r2, by rw [r4 0 (by simp [T3.Tp.kids])]; rfl, (block_cells k3).2, ⟨k1, k3⟩⟩
  have HPA : Aside (∀ V, Calls Tryz.prog 114 #[.string (S (enc (.tl a)))] V fun e w' => ∃ v, e = .returned v ∧ w'.ownsRow V.heap.size 9 1 v (T3.Tp.kids (.tl a)).length (T3.tcells ((T3.Tp.kids (.tl a)).map enc)) ∧ Below V.heap.size V w') := hpa
  clear hpa hI hIW hτ h64 hv hx hnd hT
  generalize hsa : S (enc a) = sa at *
  clear hsa
  generalize hsl : S (enc (.tl a)) = sl at *
  clear hsl
  generalize (ts.map enc).length = tn at *
  go_upto_region 17 with fail
  go_wp2_with fail
  go_at_call 114
  refine (HPA.out _).mono ?_
  rintro e w1 ⟨v1, rfl, hown1, hB1⟩
  obtain ⟨g, cap, rfl, hcap, hg0, hfz, hT3⟩ := HX.out w1 _ hown1 hB1
  have y0 := (block_cells hT3.b1).1 0
  have y1 := (block_cells hT3.b1).1 1
  have y2 := (block_cells hT3.b1).1 2
  have y3 := (block_cells hT3.b1).1 3
  have y4 := (block_cells hT3.b1).1 4
  have y5 := (block_cells hT3.b1).1 5
  have y6 := (block_cells hT3.b1).1 6
  have y7 := (block_cells hT3.b1).1 7
  simp only [Tr.ncells, In.base, List.getElem?_toArray, List.getElem?_cons_zero, List.getElem?_cons_succ] at y0 y1 y2 y3 y4 y5 y6 y7
  have HB := hT3.bl
  clear HX HPA hown1 hB1 hT3 c2' hty xz x0 x2 x3 x4 x5
  have HB2 : Below w.heap.size w (w1.setCell ⟨w.heap.size + 1, 4, none⟩ (.string sa)) := HB.trans ⟨rfl, rfl, rfl, by simp [World.setCell], fun k hk => In.setc_ne (by omega)⟩
  go_wp2_with fail
  go_ret
  rw [HE.out]
  exact nd_endX rfl HB2 (by simp [World.setCell]) (by simp [Tr.ncells, In.base, HK.out])

theorem node_any (B ib fb i at' : Nat) (sv nv tv v : Value) (md : ByteArray) (l : List Nd) (ts : List Ty) (N L : List (List UInt8)) (ss : List In.Si) (x : Nd) (τ : Ty) (w : World) (hI : In.Is B w ib sv md nv tv l ts N fb i ss) (hx : l[at']? = some x) (hτ : ts[at']? = some τ) (h64 : (enc τ).length ≤ 64) (hl : l.length ≤ 100000) (hs : x.s.size ≤ maxLen) (hN : N.length ≤ 1000) (hL : L.length ≤ 100000) (hv : IsAr w v L) (hg : x.kind = 21 → ∃ a, τ = .tl a) :
    Calls Tryz.prog 62 #[.pointer (some ⟨ib, 0, none⟩), .int .i64 (at' : Int), v] w (NdEnd w (In.nodeP N L τ x)) := by
  by_cases k1 : x.kind = 1
  · exact node_n1 B ib fb i at' sv nv tv v md l ts N L ss x τ w hI hx hτ h64 hl hs hN hL hv k1
  by_cases k3 : x.kind = 3
  · exact node_n3 B ib fb i at' sv nv tv v md l ts N L ss x τ w hI hx hτ h64 hl hs hN hL hv k3
  by_cases k2 : x.kind = 2
  · exact node_s B ib fb i at' sv nv tv v md l ts N L ss x τ w hI hx hτ h64 hl hs hN hL hv k2
  by_cases k4 : x.kind = 4
  · exact node_v B ib fb i at' sv nv tv v md l ts N L ss x τ w hI hx hτ h64 hl hs hN hL hv k4
  by_cases k5 : x.kind = 5
  · exact node_f5 B ib fb i at' sv nv tv v md l ts N L ss x τ w hI hx hτ h64 hl hs hN hL hv k5
  by_cases k6 : x.kind = 6
  · exact node_f6 B ib fb i at' sv nv tv v md l ts N L ss x τ w hI hx hτ h64 hl hs hN hL hv k6
  by_cases k8 : x.kind = 8
  · exact node_l B ib fb i at' sv nv tv v md l ts N L ss x τ w hI hx hτ h64 hl hs hN hL hv k8
  by_cases k21 : x.kind = 21
  · obtain ⟨a, ha⟩ := hg k21
    exact node_t B ib fb i at' sv nv tv v md l ts N L ss x τ w hI hx hτ h64 hl hs hN hL hv k21 a ha
  by_cases k29 : x.kind = 29
  · exact node_a B ib fb i at' sv nv tv v md l ts N L ss x τ w hI hx hτ h64 hl hs hN hL hv k29
  exact node_o B ib fb i at' sv nv tv v md l ts N L ss x τ w hI hx hτ h64 hl hs hN hL hv ⟨k1, k3, k2, k4, k5, k6, k8, k21, k29⟩
end Go.Proofs.YthdlfeejeboboaaGreatDoor
