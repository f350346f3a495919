/- Package insert: cast, where the types are not the same. -/
import Derived.Test.YthdlfeejeboboaaGreatDoorUax
namespace Go.Proofs.YthdlfeejeboboaaGreatDoor
open Go.RowKit Go.Maps Ck
open T3.Tp (Ty enc cns met)
open Tr (T Nd nm flat flats)
set_option maxRecDepth 100000
set_option linter.unusedSimpArgs false
set_option linter.unusedVariables false

set_option maxHeartbeats 16000000 in
theorem cast_diff (B ib fb i b at' kb mb lo hi k p m : Nat) (md : ByteArray) (nv tv va sv : Value) (l : List Nd) (ts : List Ty) (N : List (List UInt8)) (ah : List Nd) (bs : List Nat) (w : World) (st : List In.PT × List In.Si) (x y : Nd) (t T2 : Ty) (r : Int) (hC : In.Cst B ib fb i b at' kb mb lo hi md nv tv va l ts N ah bs w st sv) (hp : (st.1.map In.PT.plc)[k]? = some p) (hx : l[at']? = some x) (hy : l[p]? = some y) (ht : ts[p]? = some t) (hm : In.AhB m st.1) (hm2 : m ≤ 1000000) (hl : l.length ≤ 100000) (hss : st.2.length ≤ 100000) (hne : t ≠ T2) (hr : r ≠ 16) : Calls Tryz.prog 121 #[.pointer (some ⟨ib, 0, none⟩), .pointer (some ⟨b, 0, none⟩), .int .i64 (k : Int), .string (S (enc T2)), .int .i64 r] w (In.CsEnd B ib fb i b at' kb mb lo hi md nv tv va l ts N ah bs w (In.wsh x y t st (k, T2, r))) := by
  obtain ⟨c0, c1, c2, c3, c4, c5, cz⟩ := hC.is.cells
  obtain ⟨d0, d1, d2, d3, dz, dk, dkz⟩ := hC.pn.cells
  have hkp : p < l.length := (List.getElem?_eq_some_iff.1 hy).1
  have hkt : p < ts.length := (List.getElem?_eq_some_iff.1 ht).1
  have hkn : k < st.1.length := by have := (List.getElem?_eq_some_iff.1 hp).1; simpa using this
  have hkk : w.cell? ⟨kb, k, none⟩ = some (.int .i64 (p : Int)) := by rw [dk k]; simp only [In.icells, List.getElem?_map, hp, Option.map_some]
  clear dk
  obtain ⟨at1, ct, rfl⟩ := txs_form hC.is.ty
  obtain ⟨tb, to', rfl, htc, htb, hty⟩ := hC.is.type ht
  rw [List.length_map] at htc c2
  have hk' : (k : Int) < (st.1.length : Int) := by omega
  have hp' : (p : Int) < (ts.length : Int) := by omega
  obtain ⟨an, cn, rfl⟩ := hC.is.no.form
  obtain ⟨nb, no, rfl, hcn, hnb, hnd⟩ := hC.is.no.at hy
  have q6 := hnd 6 _ rfl
  have q7 := hnd 7 _ rfl
  have hpl : (p : Int) < (l.length : Int) := by omega
  obtain ⟨i0, hi1, hz0, hz1, hz2⟩ := info_parts In.infoS
  obtain ⟨j0, hj1, jz0, jz1, jz2⟩ := info_parts infoN
  obtain ⟨b1, b2, b3, b4, b5, b6, b7⟩ := hC.lt
  obtain ⟨l1, l2, l3⟩ := hC.is.lt
  have hlh := hC.types
  obtain ⟨pk, hpk⟩ : ∃ pk, st.1[k]? = some pk := ⟨_, List.getElem?_eq_getElem hkn⟩
  obtain ⟨bk, lk, hk2, hbk, hlk, hhk, hpt⟩ := In.isPTs_at _ hC.ks hpk
  have hbk' := In.isPT_le _ hpt
  obtain ⟨vk, Ck, hkb, hkc, hkz, hkr⟩ := In.isPT_cells _ hpt
  obtain ⟨ak, ahk, kk⟩ := pk
  have hkr := hkr ak ahk kk rfl
  have hahk := hm k ak ahk kk hpk
  have hsb : ((S (enc t)).toList == (S (enc T2)).toList) = false := (Lib.bytes_beq_false_iff _ _).2 (fun e => hne (by
    have e2 := congrArg (fun s : ByteArray => tyOf s.data.toList) e
    simpa [S_list, tyOf_enc] using e2))
  obtain ⟨W0, hW0⟩ : ∃ W0, W0 = w.alloc (.cells #[.int .i64 y.ln, .int .i64 y.co] 70) := ⟨_, rfl⟩
  have B0 : Below w.heap.size w W0 := by rw [hW0]; exact (Below.refl _ _).alloc (Nat.le_refl _) _
  have z0 : W0.heap.size = w.heap.size + 1 := by rw [hW0]; simp
  have p0 : W0.heap[w.heap.size]? = some (.cells #[.int .i64 y.ln, .int .i64 y.co] 70 (0, 0)) := by rw [hW0]; exact heap_alloc_new _ _
  have HR : Aside (In.wsh x y t st (k, T2, r) = (st.1.modify k (In.lay (In.castN t T2 (st.2.length + 1) y.ln y.co)), st.2 ++ [⟨r, y.ln, y.co⟩])) := by
    show _ = _
    unfold In.wsh
    rw [if_neg hne]
    simp only [if_neg hr, if_true]
  have HN : Aside (Tr.ncells (In.castN t T2 (st.2.length + 1) y.ln y.co) = [.int .i8 30, .int .i64 1, .int .i64 ((st.2.length + 1 : Nat) : Int), .string ⟨#[]⟩, .string (S (enc t)), .string (S (enc T2)), .int .i64 y.ln, .int .i64 y.co]) := rfl
  obtain ⟨cN, hcN⟩ : ∃ cN, cN = In.castN t T2 (st.2.length + 1) y.ln y.co := ⟨_, rfl⟩
  rw [← hcN] at HR HN
  have hr16 : (r == 16) = false := by simpa using hr
  have HC : Aside (In.Cst B ib fb i b at' kb mb lo hi md (.slice (some ⟨nb, no, none⟩) l.length cn) (.slice (some ⟨tb, to', none⟩) (ts.map enc).length ct) va l ts N ah bs w st sv) := hC
  rw [List.length_map] at HC ⊢
  have hlook0 := hC.pn.mp
  clear hm hnd hne
  have HY : Aside (l[p]? = some y) := hy
  have HX : Aside (l[at']? = some x) := hx
  clear hy hx ht hC
  generalize S (enc t) = s1 at *
  generalize S (enc T2) = s2 at *
  go_enter Tryz.func121, Tryz.ntmps121
  go_upto_region 4 with fail
  rw [← hW0]
  obtain ⟨V0, hV0⟩ : ∃ V0, V0 = W0 := ⟨_, rfl⟩
  have BV : Below w.heap.size w V0 := by rw [hV0]; exact B0
  have zv : V0.heap.size = w.heap.size + 1 := by rw [hV0]; exact z0
  have pv : V0.heap[w.heap.size]? = some (.cells #[.int .i64 y.ln, .int .i64 y.co] 70 (0, 0)) := by rw [hV0]; exact p0
  rw [← hV0]
  clear hV0 B0 z0 p0 hW0
  have B1 : Below w.heap.size w V0 := BV
  have is0 := HC.out.is.below B1
  obtain ⟨c0, c1, c2, c3, c4, c5, cz⟩ := is0.cells
  have v0 : V0.cell? ⟨w.heap.size, 0, none⟩ = some (.int .i64 y.ln) := (block_cells pv).1 0
  have v1 : V0.cell? ⟨w.heap.size, 1, none⟩ = some (.int .i64 y.co) := (block_cells pv).1 1
  have hownS := is0.own
  have hBV := is0.lt.2.2
  have hone : ∀ u ∈ In.scell md ⟨r, y.ln, y.co⟩, u.oneCell' = true := fun u hu => by simp [In.scell] at hu; rcases hu with rfl | rfl | rfl | rfl | rfl <;> rfl
  have hsib : ∀ g, sv.ownBlock = some g → B ≤ g ∧ g < V0.heap.size := fun g e => hownS.lt g e
  have HG : ∀ (W : World) (o : Obj), (V0.drew.alloc o).grownBy W sv.ownBlock → V0.grownBy W sv.ownBlock := fun W o h => ⟨h.os, h.tape, h.output, (grownBy_alloc_pre h).size, (grownBy_alloc_pre h).block⟩
  have HI : ∀ W, V0.grownBy W sv.ownBlock → W.cell? ⟨ib, 5, none⟩ = some sv ∧ ∀ q, W.frozen? ⟨ib, q, none⟩ = false := fun W h => by
    have hb := h.block ib (by omega) (fun e => by have := (hsib ib e.symm).1; omega)
    exact ⟨(World.cell?_of_block (a := ⟨ib, 5, none⟩) hb).trans c5, fun q => by rw [← cz q]; unfold World.frozen?; rw [hb]⟩
  have HSS : ∀ W, V0.grownBy W sv.ownBlock → W.cell? ⟨ib, 0, none⟩ = some (.string md) ∧ W.cell? ⟨ib, 5, none⟩ = some sv ∧ W.cell? ⟨w.heap.size, 0, none⟩ = some (.int .i64 y.ln) ∧ W.cell? ⟨w.heap.size, 1, none⟩ = some (.int .i64 y.co) := fun W h => by
    have hb := h.block ib (by omega) (fun e => by have := (hsib ib e.symm).1; omega)
    have hb2 := h.block w.heap.size (by omega) (fun e => by
      obtain ⟨_, ⟨rfl, _⟩ | ⟨g, cap, cur, rfl, _, h4, _⟩⟩ := hownS
      · cases e
      · have e2 : w.heap.size = g := by simpa [Value.ownBlock] using e
        rw [← e2, pv] at h4
        cases h4)
    exact ⟨(World.cell?_of_block (a := ⟨ib, 0, none⟩) hb).trans c0, (World.cell?_of_block (a := ⟨ib, 5, none⟩) hb).trans c5, (World.cell?_of_block (a := ⟨w.heap.size, 0, none⟩) hb2).trans v0, (World.cell?_of_block (a := ⟨w.heap.size, 1, none⟩) hb2).trans v1⟩
  have hA5 : ∀ o, (V0.alloc o).cell? ⟨ib, 5, none⟩ = some sv := fun o => (((Below.refl V0.heap.size V0).alloc (Nat.le_refl _) o).cell (p := ⟨ib, 5, none⟩) (by show ib < _; omega)).trans c5
  have HZ : Aside (V0.heap.size = w.heap.size + 1) := zv
  clear zv
  clear d0 d1 d2 d3 dz dkz hkk hty htb q6 q7
  have hsl : w.heap.size < V0.heap.size := by have := HZ.out; omega
  have HMID : Aside (∀ (w2 : World) (v2 : Value), V0.grownBy w2 sv.ownBlock → w2.ownsRow B 75 5 v2 (st.2.length + 1) (In.srow md st.2 ++ In.scell md ⟨r, y.ln, y.co⟩) → In.Cst B ib fb i b at' kb mb lo hi md (.slice (some ⟨nb, no, none⟩) l.length cn) (.slice (some ⟨tb, to', none⟩) ts.length ct) va l ts N ah bs (w2.setCell ⟨ib, 5, none⟩ v2) (st.1, st.2 ++ [⟨r, y.ln, y.co⟩]) v2 ∧ In.Fy B ib lo hi w (w2.setCell ⟨ib, 5, none⟩ v2) ∧ (w2.setCell ⟨ib, 5, none⟩ v2).heap[w.heap.size]? = some (.cells #[.int .i64 y.ln, .int .i64 y.co] 70 (0, 0))) := fun w2 v2 hg ho => by
    obtain ⟨F, I⟩ := cast_mid is0 hg ho
    have K : In.Kp B hi w (w2.setCell ⟨ib, 5, none⟩ v2) := (In.Kp.below B1).trans (F.kp is0.blk _ _)
    refine ⟨HC.out.keep K I (Nat.le_trans B1.size F.size), (In.Fy.below B1).trans (In.Fy.of F), ?_⟩
    rw [F.block w.heap.size hsl (by omega) (.inr fun cur e => by rw [pv] at e; cases e)]
    exact pv
  go_upto_region 6 with fail
  go_cut [] (fun wx => ∃ va2 vc2, In.Cst B ib fb i b at' kb mb lo hi md (.slice (some ⟨nb, no, none⟩) l.length cn) (.slice (some ⟨tb, to', none⟩) ts.length ct) va l ts N ah bs wx (st.1, st.2 ++ [⟨r, y.ln, y.co⟩]) (.slice va2 (st.2.length + 1) vc2) ∧ In.Fy B ib lo hi w wx ∧ wx.heap[w.heap.size]? = some (.cells #[.int .i64 y.ln, .int .i64 y.co] 70 (0, 0)))
  case first =>
    go_region_law ((refine step_append_rows (by rfl) _ _ _ (by rfl) B 0 75 i0 _ 5 56 In.tySites hi1 hz0 hz1 hz2 rfl (by decide) sv _ _ (by rfl) (World.ownsRow.alloc (w := V0.drew) hownS _) (.slice (some ⟨V0.heap.size, 0, none⟩) 1 1) 1 (In.scell md ⟨r, y.ln, y.co⟩) (by rfl) (own_site V0.drew md ⟨r, y.ln, y.co⟩) hone (by unfold maxLen; omega) (by omega) (by simp; omega) ?_; intro v2 w2 hown2 hg2 hat2; have hg3 := HG _ _ hg2; obtain ⟨hi5, hi6⟩ := HI _ hg3; obtain ⟨va2, vc2, rfl⟩ := own_len hown2; obtain ⟨hs1, -, hs2, hs3⟩ := HSS _ hg3))
    all_goals
      go_wp2_with fail
      go_meet
      case rel => exact ⟨_, _, HMID.out _ _ hg3 hown2⟩
  case rest =>
    obtain ⟨va2, vc2, hC1, hF1, hP1⟩ := hcut
    clear HMID hA5 HSS HI HG hsib hone hownS v0 v1 c0 c1 c2 c3 c4 c5 cz is0 BV B1 pv
    obtain ⟨_, _, _, _, _, e5, _⟩ := hC1.is.cells
    have r0 := (block_cells hP1).1 0
    have r1 := (block_cells hP1).1 1
    simp only [List.getElem?_toArray, List.getElem?_cons_zero, List.getElem?_cons_succ] at r0 r1
    have hlt : w.heap.size < wc.heap.size := (Array.getElem?_eq_some_iff.1 hP1).1
    obtain ⟨d0, d1, d2, d3, dz, _, _⟩ := hC1.pn.cells
    have hib : ib < wc.heap.size := by have := hC1.is.lt; omega
    have hwi : IntKind.i64.wrap ((st.2.length : Int) + 1) = (st.2.length : Int) + 1 := IntWalk.i64_in _ (by omega)
    go_upto_region 7 with fail
    go_region
    obtain ⟨W2, hW2⟩ : ∃ W2, W2 = (wc.alloc (.cells #[.int .i8 30, .int .i64 1, .int .i64 ((st.2.length : Int) + 1), .string ⟨#[]⟩, .string s1, .string s2, .int .i64 y.ln, .int .i64 y.co] 72)).drew := ⟨_, rfl⟩
    rw [← hW2]
    have B2 : Below wc.heap.size wc W2 := by rw [hW2]; exact below_drew ((Below.refl _ _).alloc (Nat.le_refl _) _)
    have z2 : W2.heap.size = wc.heap.size + 1 := by rw [hW2]; exact (by simp : (wc.alloc _).heap.size = wc.heap.size + 1)
    have L2 : W2.heap[wc.heap.size]? = some (.cells (Tr.ncells cN).toArray 72 (0, 0)) := by rw [hW2, HN.out]; exact heap_alloc_new _ _
    have hC2 := hC1.keep (In.Kp.below B2) (hC1.is.below B2) B2.size
    clear hW2 d0 d1 d2 d3 dz e5 r0 r1 hP1
    obtain ⟨d0, d1, d2, d3, dz, _, _⟩ := hC2.pn.cells
    have hlk := hC2.pn.mp.look hp hbk (by omega)
    obtain ⟨bk2, lk2, hk3, hbk2, hlk2, hhk2, hpt2⟩ := In.isPTs_at _ hC2.ks hpk
    obtain rfl : bk2 = bk := by rw [hbk] at hbk2; exact (Option.some.inj hbk2).symm
    have hbk3 := In.isPT_le _ hpt2
    obtain ⟨vk2, Ck2, hkb2, hkc2, hkz2, hkr2⟩ := In.isPT_cells _ hpt2
    have hkr2 := hkr2 ak ahk kk rfl
    have y0 := (block_cells L2).1 0
    have y1 := (block_cells L2).1 1
    have y2 := (block_cells L2).1 2
    have y3 := (block_cells L2).1 3
    have y4 := (block_cells L2).1 4
    have y5 := (block_cells L2).1 5
    have y6 := (block_cells L2).1 6
    have y7 := (block_cells L2).1 7
    simp only [HN.out, List.getElem?_toArray, List.getElem?_cons_zero, List.getElem?_cons_succ] at y0 y1 y2 y3 y4 y5 y6 y7
    have hsz2 := hC2.lt.2.2.2.2.2.2
    have HFZ : Aside (In.Fy B ib lo hi w W2) := hF1.trans (In.Fy.below B2)
    obtain ⟨avk, cvk, rfl⟩ := own_len hkr2
    have hA1 : ∀ o, (W2.alloc o).cell? ⟨bk2, 1, none⟩ = some (.slice avk ahk.length cvk) := fun o => (((Below.refl W2.heap.size W2).alloc (Nat.le_refl _) o).cell (p := ⟨bk2, 1, none⟩) (by show bk2 < _; omega)).trans hkc2
    have HK : ∀ (w3 : World) (o : Obj), (W2.drew.alloc o).grownBy w3 (some W2.heap.size) → W2.grownBy w3 (some W2.heap.size) ∧ w3.cell? ⟨bk2, 1, none⟩ = some (.slice avk ahk.length cvk) ∧ ∀ q, w3.frozen? ⟨bk2, q, none⟩ = false := fun w3 o h => by
      have h2 : W2.grownBy w3 (some W2.heap.size) := ⟨h.os, h.tape, h.output, (grownBy_alloc_pre h).size, (grownBy_alloc_pre h).block⟩
      have hb := h2.block bk2 (by omega) (by intro e; have := Option.some.inj e; omega)
      exact ⟨h2, (World.cell?_of_block (a := ⟨bk2, 1, none⟩) hb).trans hkc2, fun q => by rw [← hkz2 q]; unfold World.frozen?; rw [hb]⟩
    have HFIN : Aside (∀ (w3 : World) (v3 : Value), W2.grownBy w3 (some W2.heap.size) → w3.ownsRow W2.heap.size 72 8 v3 (1 + ahk.length) ([.int .i8 30, .int .i64 1, .int .i64 ((st.2.length : Int) + 1), .string ⟨#[]⟩, .string s1, .string s2, .int .i64 y.ln, .int .i64 y.co] ++ nrow ahk) → In.CsEnd B ib fb i b at' kb mb lo hi md (.slice (some ⟨nb, no, none⟩) l.length cn) (.slice (some ⟨tb, to', none⟩) ts.length ct) va l ts N ah bs w (In.wsh x y t st (k, T2, r)) (.returned (.tuple #[])) (w3.setCell ⟨bk2, 1, none⟩ v3)) := fun w3 v3 hg ho => by
      obtain ⟨f1, f2⟩ := cast_fin (c := cN) hC2 HFZ.out hbk hg (fun a' ahk' kk' e => by
        rw [hpk] at e
        cases e
        rw [HN.out]
        exact ho)
      rw [HR.out]
      exact ⟨rfl, f1, _, f2⟩
    have hbw := hbk3
    clear hC2 hC1 hF1 hpt2 hpt HR hcN z2 HC hlook0 hkr
    go_wp2_with fail
    go_region_law ((refine step_append_rows (by rfl) _ _ _ (by rfl) W2.heap.size 0 72 j0 _ 8 88 tyNodes hj1 jz0 jz1 jz2 rfl (by decide) (.slice (some ⟨W2.heap.size, 0, none⟩) 1 1) 1 [.int .i8 30, .int .i64 1, .int .i64 ((st.2.length : Int) + 1), .string ⟨#[]⟩, .string s1, .string s2, .int .i64 y.ln, .int .i64 y.co] (by rfl) (own_lit8 W2.drew _ rfl) (.slice avk ahk.length cvk) ahk.length (nrow ahk) (by rfl) (World.ownsRow.alloc (w := W2.drew) hkr2 _) (nrow_one ahk) (by unfold maxLen; omega) (by omega) (by simp) ?_; intro v3 w3 hown3 hg3' hat3; obtain ⟨hg3, hw1, hw2⟩ := HK _ _ hg3'; obtain ⟨va3, vc3, rfl⟩ := own_len hown3))
    all_goals
      go_end0
      exact HFIN.out _ _ hg3 hown3
end Go.Proofs.YthdlfeejeboboaaGreatDoor
