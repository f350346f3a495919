/- CheckParts returns true. -/
import Derived.Test.YthihnkgjkmaplaaDoorWac
namespace Go.Proofs.YthihnkgjkmaplaaDoor
open Go.RowKit Ck
open T3.Tp (Ty enc cns met)
open Tr (flat wf)
set_option maxRecDepth 100000
set_option linter.unusedSimpArgs false

theorem Fits.sub {l m : List Tr.Nd} (h : Fits l) (hm : ∀ x ∈ m, x ∈ l) (hl : m.length ≤ l.length) : Fits m :=
  ⟨Nat.le_trans hl h.len, fun x hx => h.kids x (hm x hx), fun x hx => h.str x (hm x hx)⟩
/-- The statement's case in a block of its own. -/
structure CBox (w : World) (b : Nat) (vL vN vT : Value) : Prop where
  lt : b < w.heap.size
  c0 : w.cell? ⟨b, 0, none⟩ = some vL
  c1 : w.cell? ⟨b, 1, none⟩ = some vN
  c2 : w.cell? ⟨b, 2, none⟩ = some vT
theorem CBox.below {w w' : World} {b : Nat} {vL vN vT : Value} (h : CBox w b vL vN vT) (hB : Below w.heap.size w w') : CBox w' b vL vN vT :=
  ⟨Nat.lt_of_lt_of_le h.lt hB.size, (hB.cell (p := ⟨b, 0, none⟩) h.lt).trans h.c0, (hB.cell (p := ⟨b, 1, none⟩) h.lt).trans h.c1, (hB.cell (p := ⟨b, 2, none⟩) h.lt).trans h.c2⟩
theorem CBox.new (w : World) (vL vN vT : Value) (t : TypeId) : CBox (w.alloc (.cells #[vL, vN, vT] t)) w.heap.size vL vN vT :=
  ⟨by simp, (block_cells (heap_alloc_new w (.cells #[vL, vN, vT] t))).1 0, (block_cells (heap_alloc_new w (.cells #[vL, vN, vT] t))).1 1, (block_cells (heap_alloc_new w (.cells #[vL, vN, vT] t))).1 2⟩

set_option maxHeartbeats 16000000 in
theorem checkParts_any (l : List Tr.Nd) (hf : Fits l) (N Th : List (List UInt8)) (hs : ∀ p ∈ N, p.length ≤ maxLen) (vL vN vT : Value) (w : World) (hl : IsNodes w vL l) (hn : T3.IsTexts w vN N) (ht : T3.IsTexts w vT Th) (hG : HasG w) (hg : 5 ≤ w.heap.size) :
    Calls Tryd.prog 4 #[.agg #[vL, vN, vT]] w fun e w' => e = .returned (.bool true) ∧ Below w.heap.size w w' := by
  obtain ⟨aL, cL, rfl⟩ := hl.form
  obtain ⟨aN, cN, rfl⟩ := txs_form hn
  obtain ⟨aT, cT, rfl⟩ := txs_form ht
  have hbx := CBox.new w (.slice aL l.length cL) (.slice aN N.length cN) (.slice aT Th.length cT) 25
  have hBw : Below w.heap.size w (w.alloc (.cells #[.slice aL l.length cL, .slice aN N.length cN, .slice aT Th.length cT] 25)) := (Below.refl _ _).alloc (Nat.le_refl _) _
  have hlg := long_any l N Th aL aN aT cL cN cT
  have hcx := fun (w : World) hl hn ht hG hg (hN : N.length ≤ 1000) => expr_any l hf N Th hN hs (.slice aL l.length cL) (.slice aN N.length cN) (.slice aT Th.length cT) w hl hn ht hG hg
  go_enter Tryd.func4, Tryd.ntmps4
  go_upto_region 1 with fail
  have hl := hl.below hBw
  have hn := txs_below hn hBw
  have ht := txs_below ht hBw
  have hG := hG.below hBw
  have hg := Nat.le_trans hg hBw.size
  have HBw : Aside (Below w.heap.size w _) := hBw
  clear hBw
  generalize w.alloc _ = W0 at *
  go_wp2_with fail
  go_at_call 6
  refine (works_any _ hG hg).mono ?_
  rintro e w1 ⟨rfl, hB1⟩
  obtain ⟨hlt1, p0, p1, p2⟩ := hbx.below hB1
  go_wp2_with fail
  go_at_call 7
  refine (hlg _).mono ?_
  rintro e w2 ⟨rfl, hB2⟩
  have hB := bt hB1 hB2
  clear hB1 hB2 p0 p1 p2 hlt1 hlg
  cases hlb : longB l N Th with
  | true =>
    go_wp2_with fail
    go_ret
    exact ⟨rfl, bt HBw.out hB⟩
  | false =>
    obtain ⟨n1, n2, n3⟩ := long_no hlb
    clear hlb
    obtain ⟨hlt1, p0, p1, p2⟩ := hbx.below hB
    go_wp2_with fail
    go_at_call 8
    refine (hcx _ (hl.below hB) (txs_below hn hB) (txs_below ht hB) (hG.below hB) (Nat.le_trans hg hB.size) (by omega)).mono ?_
    rintro e w3 ⟨hB3, a, n, c, r, er, at', rfl, hx, hnr, htx, _⟩
    have hB := bt hB hB3
    clear hB3 p0 p1 p2 hlt1 hcx hn ht
    by_cases her : er = 0
    · subst her
      obtain ⟨ts, t, x, k1, k2, k3, k4, k5, k6, rfl, k8, k9, k10⟩ := hx.zero
      have hnl : n = l.length := by rw [hnr, List.length_map, k6]
      subst hnl
      have HK : Aside (∀ p : Nat, p < l.length → ∃ (u : Tr.T) (e : Nat), bhI l p = e ∧ p < e ∧ e ≤ l.length ∧ (l.drop p).take (e - p) = flat u ∧ wf u ∧ (chkN (flat u)).1 = 0 ∧ (Tr.free u = [] → ckT (envOf [] []) u 0 = .ok ((x.drop p).take (e - p)))) := fun p hp => part_known k1 k2 k3 k4 hp
      have hxl : l.length ≤ (x.map enc).length := by rw [List.length_map, k6]; exact Nat.le_refl _
      have K6 : Aside (x.length = l.length) := k6
      clear hx hnr k1 k2 k3 k4 k8 k9 k10 k5 k6
      have htx : IsTexts w3 (.slice a l.length c) (x.map enc) := htx
      go_wp2_with fail
      go_loopg [7] l.length (fun gq tq wr => ∃ k : Nat, k + gq = l.length ∧ tq = .int .i64 (k : Int) ∧ Below W0.heap.size W0 wr ∧ IsTexts wr (.slice a l.length c) (x.map enc))
      case atStart => exact ⟨0, by omega, rfl, hB, htx⟩
      case round =>
        obtain ⟨k, hkg, rfl, hBr, htr⟩ := hrel
        clear htx hB
        obtain ⟨hlt1, p0, p1, p2⟩ := hbx.below hBr
        by_cases hk : k < l.length
        · have hk' : (k : Int) < (l.length : Int) := by omega
          have hk0 : (0 : Int) ≤ (k : Int) := by omega
          obtain ⟨u, e, e1, e2, e3, e4, e5, e6, e7⟩ := HK.out k hk
          have hbh := behind_any l hf.len hf.kids (.slice aL l.length cL) (k : Int) wr (hl.below hBr)
          rw [e1] at hbh
          have hlr := hl.below hBr
          have hfp := Tr.flat_pos u
          obtain ⟨xk, hxk, _⟩ := getc hk
          obtain ⟨bL, oL, rfl, hcL, _, _⟩ := hlr.at hxk
          obtain ⟨pk, hpk⟩ := getp (a := x.map enc) (k := k) (by omega)
          obtain ⟨bt', ot, rfl, hct, _, _⟩ := htr.at hpk
          obtain ⟨hcu, hlen5⟩ := hlr.cut (i := k) (j := e) e2 e3
          rw [e4] at hcu hlen5
          have hfit : Fits (flat u) := hf.sub (fun y hy => by rw [← e4] at hy; exact List.mem_of_mem_drop (List.mem_of_mem_take hy)) (by omega)
          have htc := txs_cut htr (i := k) (j := e) e2 (by omega)
          have hke : (k : Int) < (e : Int) := by omega
          have hle1 : decide ((e : Int) ≤ (k : Int)) = false := by simp; omega
          have hle2 : decide ((l.length : Int) < (e : Int)) = false := by simp; omega
          have hcap1 : (e : Int) ≤ (cL : Int) := by omega
          have hcap2 : (e : Int) ≤ (c : Int) := by omega
          clear hxk hpk e1 e4 HK
          go_wp2_with (go_at_call 12; refine hbh.mono ?_; rintro e' w4 ⟨rfl, hB4⟩; obtain ⟨hlt4, q0, q1, q2⟩ := (hbx.below hBr).below hB4)
          have hB := bt hBr hB4
          have hcp := copyNodes_any (flat u) hfp (by omega) _ w4 (hcu.below hB4)
          rw [hlen5] at hcp
          clear hlen5 hcu
          refine hcp.mono ?_
          rintro e' w5 ⟨a5, c5, rfl, hn5, hlow5, hB5⟩
          have hB := bt hB hB5
          have hfe := free_any (flat u) hfit _ w5 hn5 hlow5
          clear hcp hbh q0 q1 q2 hlt4
          go_wp2_with fail
          refine hfe.mono ?_
          rintro e' w6 ⟨r6, ns, rfl, hfn, own6, hB6⟩
          have hB := bt hB hB6
          have hns := freeN_one e5 e6 hfn
          obtain ⟨a6, c6, rfl⟩ := own_len own6
          have htB : Below wr.heap.size wr w6 := bt (bt hB4 hB5) hB6
          clear own6 hfn hfe
          by_cases hn0 : ns.length = 0
          · obtain rfl : ns = [] := List.length_eq_zero_iff.1 hn0
            have hex := expr_ok hfit (N := []) (Th := []) (by simp) (by simp) (by kernel_rfl) (ts0 := []) rfl e6 e5 rfl (e7 hns.symm) (hn5.below hB6) (txs_nil w6) (txs_nil w6) (hG.below hB) (Nat.le_trans hg hB.size)
            have hsl : ((x.drop k).take (e - k)).length = e - k := by have := K6.out; simp; omega
            rw [hsl] at hex
            have hme : ((x.drop k).take (e - k)).map enc = ((x.map enc).drop k).take (e - k) := by rw [List.map_take, List.map_drop]
            rw [hme] at hex
            generalize ((x.map enc).drop k).take (e - k) = seg at *
            have hsg : seg.length ≤ 2199023255552 := by rw [← hme, List.length_map, hsl]; omega
            clear hn0 hns e7 hme hsl
            go_wp2_with fail
            refine hex.mono ?_
            rintro e' w7 ⟨b7, c7, rfl, ht7, hB7⟩
            have hB := bt hB hB7
            have ht7' : IsTexts w7 (.slice b7 (e - k) c7) seg := ht7
            have htc' : IsTexts w7 (.slice (some ⟨bt', ot + k, none⟩) (e - k) (c - k)) seg := txs_below (w := wr) (show T3.IsTexts wr _ _ from htc) (bt htB hB7)
            have heq := eqTexts_same seg hsg _ _ w7 htc' ht7'
            have htr' : IsTexts w7 (.slice (some ⟨bt', ot, none⟩) l.length c) (x.map enc) := txs_below (w := wr) (show T3.IsTexts wr _ _ from htr) (bt htB hB7)
            clear hex ht7 ht7' htc' htc htr
            go_wp2_with (go_at_call 15; refine heq.mono ?_; rintro e' w8 ⟨rfl, n8, rfl⟩)
            go_roundg (l.length - (k + 1))
            case measure => omega
            case rel => exact ⟨k + 1, by omega, by go_num, below_drewN hB n8, txs_below (w := w7) (show T3.IsTexts w7 _ _ from htr') (below_drewN (Below.refl _ _) n8)⟩
          · have hn0' : (0 : Int) < (ns.length : Int) := by omega
            have htr' : IsTexts w6 (.slice (some ⟨bt', ot, none⟩) l.length c) (x.map enc) := txs_below (w := wr) (show T3.IsTexts wr _ _ from htr) htB
            clear hns e7 htc
            go_wp2_with fail
            go_roundg (l.length - (k + 1))
            case measure => omega
            case rel => exact ⟨k + 1, by omega, by go_num, hB, htr'⟩
        · have hk' : ¬ (k : Int) < (l.length : Int) := by omega
          go_wp2_with fail
          go_ret
          exact ⟨rfl, bt HBw.out hBr⟩
    · have her' : (er != 0) = true := by simpa using her
      go_wp2_with fail
      go_ret
      exact ⟨rfl, bt HBw.out hB⟩
end Go.Proofs.YthihnkgjkmaplaaDoor
