/- Package check: choose. What Match answers, the program's and the document's. Package check: plain facts of uses: matching, what is put into a given text. -/
import Derived.Test.YthdlfeejeboboaaDoorUai
import Derived.Test.YthdlfeejeboboaaDoorUah
import Derived.Lib.Replace
import Derived.Lib.SplitLaws
namespace Go.Proofs.YthdlfeejeboboaaDoor
open Go.RowKit Ck
open T3.Tp (Ty enc cns met)
set_option maxRecDepth 100000
set_option linter.unusedSimpArgs false

theorem below_dr {B : Nat} {a w : World} (h : Below B a w) : Below B a w.drew := ⟨h.os, h.tape, h.output, h.size, h.block⟩
theorem below_unalloc {w W : World} {o : Obj} (h : Below (w.alloc o).heap.size (w.alloc o) W) : Below w.heap.size w W := ((Below.refl _ _).alloc (Nat.le_refl _) o).trans (h.mono (by simp))

set_option maxHeartbeats 4000000 in
theorem choose_any (w : World) (cb tb n i : Nat) (kv : Value) (c a b : Nat × Ty) (hT : HasT w cb tb n) (hK : Kds w tb n kv [c, a, b]) :
    Calls Tryd.prog 52 #[.pointer (some ⟨cb, 0, none⟩), .int .i64 (i : Int), kv] w fun e w' => Ans (if cns c.2 .tb then meetK i a.2 b else .error (23, c.1)) e ∧ Below w.heap.size w w' := by
  have hcb : cb < w.heap.size := World.block_lt_of_cell? _ _ hT
  obtain ⟨kb, rfl, g0, g1, g2, g3⟩ := hK.at' 0 c rfl
  obtain ⟨kb', h1, i0, i1, i2, i3⟩ := hK.at' 1 a rfl
  obtain rfl : kb = kb' := by simpa using h1
  obtain ⟨kb', h2, j0, j1, j2, j3⟩ := hK.at' 2 b rfl
  obtain rfl : kb = kb' := by simpa using h2
  clear hK h1 h2
  have hkb : kb < w.heap.size := World.block_lt_of_cell? _ _ g0
  have htb : tb < w.heap.size := World.block_lt_of_cell? _ _ g2
  obtain ⟨w0, hw0⟩ : ∃ w0, w0 = w.alloc (.cells #[.int .i64 0, .int .i64 0] 61) := ⟨_, rfl⟩
  have hB0 : Below w.heap.size w w0 := by rw [hw0]; exact (Below.refl _ _).alloc (Nat.le_refl _) _
  have b1 : w0.heap[w.heap.size]? = some (.cells #[.int .i64 0, .int .i64 0] 61) := by rw [hw0]; exact heap_alloc_new _ _
  have hz0 : w0.heap.size = w.heap.size + 1 := by rw [hw0]; simp
  obtain ⟨x, y, hxy⟩ : ∃ x y : Int, (cns c.2 .tb = true ∧ x = 0 ∧ y = 0) ∨ (cns c.2 .tb = false ∧ x = 23 ∧ y = c.1) := by
    cases cns c.2 .tb
    · exact ⟨23, c.1, .inr ⟨rfl, rfl, rfl⟩⟩
    · exact ⟨0, 0, .inl ⟨rfl, rfl, rfl⟩⟩
  have HA : ∀ W, Below w.heap.size w W → Calls Tryd.prog 51 #[.pointer (some ⟨cb, 0, none⟩), .int .i64 (c.1 : Int), .string ⟨#[98]⟩, .agg #[.int .i64 23, .int .i64 (c.1 : Int)]] W fun e w' => e = .returned (.agg #[.int .i64 x, .int .i64 y]) ∧ Below W.heap.size W w' := by
    intro W hB
    refine (ask_any W cb tb n c.1 c.2 .tb 23 (c.1 : Int) (hT.below hcb hB) g1 ((hB.cell (p := ⟨tb, c.1, none⟩) htb).trans g2) g3 (by decide)).mono ?_
    rintro e w' ⟨rfl, hB'⟩
    refine ⟨?_, hB'⟩
    rcases hxy with ⟨h, rfl, rfl⟩ | ⟨h, rfl, rfl⟩
    · rw [h]; rfl
    · rw [h]; rfl
  have HXY : Aside _ := hxy
  obtain ⟨R, hR⟩ : ∃ R, R = (if cns c.2 .tb then meetK i a.2 b else .error (23, c.1)) := ⟨_, rfl⟩
  rw [← hR]
  have HRR : Aside _ := hR
  clear hR
  have k0 : w0.cell? ⟨kb, 0, none⟩ = some (.int .i64 (c.1 : Int)) := (hB0.cell (p := ⟨kb, 0, none⟩) hkb).trans g0
  have HK : Aside (∀ W, Below w.heap.size w W → (W.cell? ⟨cb, 1, none⟩ = some (.slice (some ⟨tb, 0, none⟩) n n)) ∧ (W.cell? ⟨kb, 1, none⟩ = some (.int .i64 (a.1 : Int))) ∧ (W.cell? ⟨kb, 2, none⟩ = some (.int .i64 (b.1 : Int))) ∧ (W.cell? ⟨tb, a.1, none⟩ = some (.string (S (enc a.2)))) ∧ Calls Tryd.prog 66 #[.pointer (some ⟨cb, 0, none⟩), .int .i64 (i : Int), .string (S (enc a.2)), .int .i64 (b.1 : Int)] W fun e w' => Ans (meetK i a.2 b) e ∧ Below W.heap.size W w') := fun W hB =>
    ⟨hT.below hcb hB, (hB.cell (p := ⟨kb, 1, none⟩) hkb).trans i0, (hB.cell (p := ⟨kb, 2, none⟩) hkb).trans j0, (hB.cell (p := ⟨tb, a.1, none⟩) htb).trans i2, ckMeet_any W cb tb n b.1 i a.2 b.2 (hT.below hcb hB) j1 ((hB.cell (p := ⟨tb, b.1, none⟩) htb).trans j2) j3 i3⟩
  have HC : Aside (∀ w1, Below w0.drew.heap.size w0.drew w1 → Below w0.heap.size w0 w1 ∧ w1.cell? ⟨kb, 0, none⟩ = some (.int .i64 (c.1 : Int))) := fun w1 h => by
    have hb1 : Below w0.heap.size w0 w1 := ⟨h.os, h.tape, h.output, h.size, h.block⟩
    exact ⟨hb1, (hb1.cell (p := ⟨kb, 0, none⟩) (by show kb < w0.heap.size; omega)).trans k0⟩
  have HD : Aside (∀ w1, Below (w0.alloc (.cells #[.int .i64 0, .int .i64 0] 61)).drew.heap.size (w0.alloc (.cells #[.int .i64 0, .int .i64 0] 61)).drew w1 → Below w0.heap.size w0 w1 ∧ w1.cell? ⟨kb, 0, none⟩ = some (.int .i64 (c.1 : Int)) ∧ (w1.cell? ⟨w.heap.size + 1, 0, none⟩ = some (.int .i64 0) ∧ w1.cell? ⟨w.heap.size + 1, 1, none⟩ = some (.int .i64 0)) ∧ ∀ q, w1.frozen? ⟨w.heap.size + 1, q, none⟩ = false) := fun w1 h => by
    have h' : Below (w0.alloc (.cells #[.int .i64 0, .int .i64 0] 61)).heap.size (w0.alloc (.cells #[.int .i64 0, .int .i64 0] 61)) w1 := ⟨h.os, h.tape, h.output, h.size, h.block⟩
    have hb1 : Below w0.heap.size w0 w1 := below_unalloc h'
    have m1 : w1.heap[w.heap.size + 1]? = some (.cells #[.int .i64 0, .int .i64 0] 61) := (h'.block (w.heap.size + 1) (by simp [hz0])).trans (by rw [← hz0]; exact heap_alloc_new _ _)
    exact ⟨hb1, (hb1.cell (p := ⟨kb, 0, none⟩) (by show kb < w0.heap.size; omega)).trans k0, ⟨(block_cells m1).1 0, (block_cells m1).1 1⟩, (block_cells m1).2⟩
  clear hxy hT g0 g2 i0 i2 j0 j2
  go_enter Tryd.func52, Tryd.ntmps52
  go_upto_region 1 with fail
  rw [← hw0]
  clear hw0
  go_cut [8] (fun s8 wc => ∃ g, s8 = .pointer (some ⟨g, 0, none⟩) ∧ w0.heap.size ≤ g ∧ wc.cell? ⟨g, 0, none⟩ = some (.int .i64 x) ∧ wc.cell? ⟨g, 1, none⟩ = some (.int .i64 y) ∧ Below w0.heap.size w0 wc)
  case first =>
    go_region_with (go_at_call 51; refine (HA _ (by first | exact below_dr hB0 | exact below_dr (hB0.alloc hB0.size _))).mono ?_; rintro e w1 ⟨rfl, hB1⟩; first | (refine (fun hh => ?_) (HC.out w1 hB1); obtain ⟨hb1, k1⟩ := hh) | (refine (fun hh => ?_) (HD.out w1 hB1); obtain ⟨hb1, k1, ⟨m0, m1⟩, mz⟩ := hh))
    all_goals
      go_wp2_with fail
      go_meet
      case rel =>
        first
        | (have hn := heap_alloc_new w1 (.cells #[.int .i64 x, .int .i64 y] 61)
           exact ⟨_, rfl, hb1.size, (block_cells hn).1 0, (block_cells hn).1 1, hb1.alloc hb1.size _⟩)
        | (refine ⟨w.heap.size + 1, rfl, by omega, ?_, ?_, (hb1.setCell (by show w0.heap.size ≤ w.heap.size + 1; omega) _).setCell (by show w0.heap.size ≤ w.heap.size + 1; omega) _⟩
           · simp [go_sem, m0, m1]
           · simp [go_sem, m0, m1])
  case rest =>
    obtain ⟨g, rfl, hg, f0, f1, hBc⟩ := hcut
    have hBw : Below w.heap.size w wc := hB0.trans (hBc.mono (by omega))
    have l1 := (hBc.block w.heap.size (by omega)).trans b1
    have c0 : wc.cell? ⟨w.heap.size, 0, none⟩ = some (.int .i64 0) := (block_cells l1).1 0
    have c1 : wc.cell? ⟨w.heap.size, 1, none⟩ = some (.int .i64 0) := (block_cells l1).1 1
    have cz := (block_cells l1).2
    have hgne : ¬ g = w.heap.size := by omega
    obtain ⟨e1, e2, e3, e4, HM⟩ := HK.out wc hBw
    clear HA HC HD b1 l1 k0 hBc hB0
    rcases HXY.out with ⟨hq, rfl, rfl⟩ | ⟨hq, rfl, rfl⟩
    · have HR : Aside (R = meetK i a.2 b) := by show _ = _; rw [HRR.out, hq]; rfl
      have ha1 : (a.1 : Int) < (n : Int) := by omega
      have ha0 : (0 : Int) ≤ (a.1 : Int) := by omega
      have HB : Aside (∀ w1, Below wc.drew.heap.size wc.drew w1 → (w1.cell? ⟨w.heap.size, 0, none⟩ = some (.int .i64 0) ∧ w1.cell? ⟨w.heap.size, 1, none⟩ = some (.int .i64 0)) ∧ (∀ q, w1.frozen? ⟨w.heap.size, q, none⟩ = false) ∧ (∀ x y, Below w.heap.size w ((w1.setCell ⟨w.heap.size, 0, none⟩ x).setCell ⟨w.heap.size, 1, none⟩ y))) := fun w1 h => by
        have h' : Below wc.heap.size wc w1 := ⟨h.os, h.tape, h.output, h.size, h.block⟩
        have hlt : w.heap.size < wc.heap.size := World.block_lt_of_cell? _ _ c0
        have hb := hBw.trans (h'.mono (by have := hBw.size; omega))
        refine ⟨⟨(h'.cell (p := ⟨w.heap.size, 0, none⟩) hlt).trans c0, (h'.cell (p := ⟨w.heap.size, 1, none⟩) hlt).trans c1⟩, fun q => ?_, fun x y => (hb.setCell (by simp) _).setCell (by simp) _⟩
        rw [← cz q]; unfold World.frozen?; rw [h'.block _ hlt]
      have HM2 := (HK.out wc.drew (below_dr hBw)).2.2.2.2
      clear HK HXY HRR HM hBw
      generalize S (enc a.2) = sa at *
      go_upto_region 4 with fail
      cases hm : meetK i a.2 b with
      | ok t =>
        rw [hm] at HM2 HR
        go_region_with (go_at_call 66; refine HM2.mono ?_; rintro e w1 ⟨⟨p, rfl⟩, hB1⟩; unfold rf; obtain ⟨⟨d0, d1⟩, dz, HBF⟩ := HB.out w1 hB1)
        all_goals
          go_wp2_with fail
          try simp only [Exit.inBlock, Exit.then]
          refine bodyPost_ret (v := .tuple #[.string (S (enc t)), .agg #[.int .i64 0, .int .i64 p]]) (by simp [results, Tryd.results52, go_sem, d0, d1]) rfl ?_
          exact ⟨by rw [HR.out]; exact ⟨_, rfl⟩, HBF _ _⟩
      | error q =>
        obtain ⟨q1, q2⟩ := q
        rw [hm] at HM2 HR
        go_region_with (go_at_call 66; refine HM2.mono ?_; rintro e w1 ⟨⟨hq, s, rfl⟩, hB1⟩; unfold rf; obtain ⟨⟨d0, d1⟩, dz, HBF⟩ := HB.out w1 hB1)
        all_goals
          go_wp2_with fail
          try simp only [Exit.inBlock, Exit.then]
          refine bodyPost_ret (v := .tuple #[.string s, .agg #[.int .i64 q1, .int .i64 q2]]) (by simp [results, Tryd.results52, go_sem, d0, d1]) rfl ?_
          exact ⟨by rw [HR.out]; exact ⟨hq, _, rfl⟩, HBF _ _⟩
    · have HR : Aside (R = .error (23, (c.1 : Nat))) := by show _ = _; rw [HRR.out, hq]; rfl
      have HBF : Aside (∀ x y, Below w.heap.size w (((wc.setCell ⟨w.heap.size, 0, none⟩ x).setCell ⟨w.heap.size, 1, none⟩ y).drew)) := fun x y => below_dr ((hBw.setCell (by simp) _).setCell (by simp) _)
      clear HK HXY HRR HM e1 e2 e3 e4 hBw
      go_wp2_with fail
      go_region
      all_goals
        go_wp2_with fail
        try simp only [Exit.inBlock, Exit.then]
        refine bodyPost_ret (v := .tuple #[.string ⟨#[]⟩, .agg #[.int .i64 23, .int .i64 c.1]]) (by simp [results, Tryd.results52, go_sem, c0, c1]) rfl ?_
        exact ⟨by rw [HR.out]; exact ⟨by simp, _, rfl⟩, HBF.out _ _⟩
end Go.Proofs.YthdlfeejeboboaaDoor
namespace Go.Proofs.YthdlfeejeboboaaDoor.T3
open Go.RowKit
set_option maxRecDepth 100000
set_option linter.unusedSimpArgs false

/-- P3.3: the parts, and whether it matches. -/
def mtL (t : Tp.Ty) (h : Int) : List (List UInt8) := if ((Tp.hd t).toNat : Int) = h then (Tp.kids t).map Tp.enc else if t = .tq then List.replicate (Tp.ar h).toNat [63] else []
def mtB (t : Tp.Ty) (h : Int) : Bool := decide (((Tp.hd t).toNat : Int) = h) || (decide (t = .tq) && decide (1 ≤ Tp.ar h))
theorem mt_same {t : Tp.Ty} {h : Int} (e : ((Tp.hd t).toNat : Int) = h) : mtL t h = (Tp.kids t).map Tp.enc ∧ mtB t h = true := by simp [mtL, mtB, e]
theorem mt_else {t : Tp.Ty} {h : Int} (e : ((Tp.hd t).toNat : Int) ≠ h) (q : t ≠ .tq) : mtL t h = [] ∧ mtB t h = false := by simp [mtL, mtB, e, q]
theorem mt_q {h : Int} (e : (63 : Int) ≠ h) : mtL .tq h = List.replicate (Tp.ar h).toNat [63] ∧ mtB .tq h = decide (1 ≤ Tp.ar h) := by
  have : ((Tp.hd .tq).toNat : Int) ≠ h := e
  simp [mtL, mtB, this]
theorem mtL_len (t : Tp.Ty) (h : Int) : (mtL t h).length ≤ 2 := by
  unfold mtL
  split
  · cases t <;> simp [Tp.kids]
  · split
    · have := (Tp.ar_bd h).2
      simp; omega
    · simp

theorem rcheck1 (w : World) (l : List UInt8) (W : World) (hW : W = w.alloc (.cells #[.string (S l)] 9)) (n : Nat) (hn : n = w.heap.size) : Calls Tryd.prog 69 #[.slice (some ⟨n, 0, none⟩) 1 1] W fun e w' => e = .returned (.int .i64 (Tp.firstBad [l])) ∧ w' = W := by
  subst hW hn
  exact rcheck_any _ [l] _ (texts1 w l) (by simp)
theorem own_lower {w : World} {b b' e n : Nat} {v : Value} {xs : List Value} (h : w.ownsRow b e 1 v n xs) (hb : b' ≤ b) : w.ownsRow b' e 1 v n xs := by
  obtain ⟨h1, h2 | ⟨g, cap, cur, rfl, hg, hr⟩⟩ := h
  · exact ⟨h1, .inl h2⟩
  · exact ⟨h1, .inr ⟨g, cap, cur, rfl, Nat.le_trans hb hg, hr⟩⟩
theorem own_lit2 {w W : World} {n b : Nat} (hW : W = w.alloc (.cells #[.string ⟨#[63]⟩, .string ⟨#[63]⟩] 9)) (hn : n = w.heap.size) (hb : b ≤ n) : W.ownsRow b 9 1 (.slice (some ⟨n, 0, none⟩) 2 2) 2 (tcells [[63], [63]]) := by
  subst hW hn
  exact own_lower (own_lit w (tcells [[63], [63]]) 9 (by simp [tcells, maxLen])) hb
theorem own_lit1 {w W : World} {n b : Nat} (hW : W = w.alloc (.cells #[.string ⟨#[63]⟩] 9)) (hn : n = w.heap.size) (hb : b ≤ n) : W.ownsRow b 9 1 (.slice (some ⟨n, 0, none⟩) 1 1) 1 (tcells [[63]]) := by
  subst hW hn
  exact own_lower (own_lit w (tcells [[63]]) 9 (by simp [tcells, maxLen])) hb

set_option maxHeartbeats 1000000 in
theorem match_no (l : List UInt8) (h : Int) (hc : (Tp.chk l).1 ≠ 0) (w : World) :
    Calls Tryd.prog 60 #[.string (S l), .int .u8 h] w fun e w' => e = .returned (.tuple #[.slice none 0 0, .bool false]) ∧ Below w.heap.size w w' := by
  have hb' : ((Tp.firstBad [l] : Int) != 0) = true := by simp [Tp.firstBad, hc]
  have hck := fun w => rcheck1 w l
  generalize S l = s at *
  go_enter Tryd.func60, Tryd.ntmps60
  go_wp2_with (go_at_call 69; refine (hck _ _ rfl _ (by simp)).mono ?_; rintro e w' ⟨rfl, rfl⟩)
  go_ret2
  exact ⟨rfl, below_alloc _ _⟩

set_option maxHeartbeats 4000000 in
theorem match_yes (t : Tp.Ty) (h : Int) (h64 : (Tp.enc t).length ≤ 64) (w : World) :
    Calls Tryd.prog 60 #[.string (S (Tp.enc t)), .int .u8 h] w fun e w' => ∃ v, e = .returned (.tuple #[v, .bool (mtB t h)]) ∧ w'.ownsRow w.heap.size 9 1 v (mtL t h).length (tcells (mtL t h)) ∧ Below w.heap.size w w' := by
  have hg : Tp.firstBad [Tp.enc t] = 0 := by simp [Tp.firstBad, Tp.chk_enc t h64]
  have hck := fun w => rcheck1 w (Tp.enc t)
  rw [hg] at hck
  have h1 := head_yes t h64
  have hp := parts_yes t h64
  have hq := Tp.isq_S t
  by_cases e : ((Tp.hd t).toNat : Int) = h
  · have HM : Aside (mtL t h = (Tp.kids t).map Tp.enc ∧ mtB t h = true) := mt_same e
    subst e
    generalize S (Tp.enc t) = s at *
    go_enter Tryd.func60, Tryd.ntmps60
    go_wp2_with (first | (go_at_call 69; refine (hck _ _ rfl _ (by simp)).mono ?_; rintro e w' ⟨rfl, hw'⟩; replace hw' := hw'.symm; subst hw') | (go_at_call 70; refine (h1 _).mono ?_; rintro e w' ⟨rfl, hw'⟩; replace hw' := hw'.symm; subst hw') | (go_at_call 37; refine (hp _).mono ?_; rintro e w1 ⟨v, rfl, hown, hB⟩))
    go_ret2
    rw [HM.out.1, HM.out.2]
    refine ⟨v, rfl, ?_, (below_alloc _ _).trans (hB.mono (by simp))⟩
    rw [List.length_map]
    exact own_lower hown (by simp)
  · have e' : (((Tp.hd t).toNat : Int) == h) = false := by simpa using e
    by_cases hqq : t = .tq
    · subst hqq
      have hqt : (S (Tp.enc .tq)).toList = [63] := toList_S _
      have hh1 : ∀ w : World, Calls Tryd.prog 70 #[.string (S (Tp.enc .tq))] w fun e w' => e = .returned (.int .u8 63) ∧ w' = w := h1
      replace h1 := hh1
      clear hh1 hp hq hg
      have e6 : (63 : Int) ≠ h := e
      have e6' : ((63 : Int) == h) = false := by simpa using e6
      obtain ⟨m1, m2⟩ := mt_q e6
      rw [m1, m2]
      clear m1 m2 e e'
      generalize S (Tp.enc .tq) = s at *
      by_cases hh62 : h = 62
      · subst hh62
        go_enter Tryd.func60, Tryd.ntmps60
        go_wp2_with (first | (go_at_call 69; refine (hck _ _ rfl _ (by simp)).mono ?_; rintro e w' ⟨rfl, hw'⟩; replace hw' := hw'.symm; subst hw') | (go_at_call 70; refine (h1 _).mono ?_; rintro e w' ⟨rfl, hw'⟩; replace hw' := hw'.symm; subst hw'))
        go_ret2
        refine ⟨_, rfl, ?_, ((Below.refl _ _).alloc (Nat.le_refl _) _).alloc (by simp) _⟩
        exact own_lit2 rfl (by simp) (by simp)
      have d62 : (h == 62) = false := by simpa using hh62
      by_cases hh44 : h = 44
      · subst hh44
        go_enter Tryd.func60, Tryd.ntmps60
        go_wp2_with (first | (go_at_call 69; refine (hck _ _ rfl _ (by simp)).mono ?_; rintro e w' ⟨rfl, hw'⟩; replace hw' := hw'.symm; subst hw') | (go_at_call 70; refine (h1 _).mono ?_; rintro e w' ⟨rfl, hw'⟩; replace hw' := hw'.symm; subst hw'))
        go_ret2
        refine ⟨_, rfl, ?_, ((Below.refl _ _).alloc (Nat.le_refl _) _).alloc (by simp) _⟩
        exact own_lit2 rfl (by simp) (by simp)
      have d44 : (h == 44) = false := by simpa using hh44
      by_cases hh108 : h = 108
      · subst hh108
        go_enter Tryd.func60, Tryd.ntmps60
        go_wp2_with (first | (go_at_call 69; refine (hck _ _ rfl _ (by simp)).mono ?_; rintro e w' ⟨rfl, hw'⟩; replace hw' := hw'.symm; subst hw') | (go_at_call 70; refine (h1 _).mono ?_; rintro e w' ⟨rfl, hw'⟩; replace hw' := hw'.symm; subst hw'))
        go_ret2
        refine ⟨_, rfl, ?_, ((Below.refl _ _).alloc (Nat.le_refl _) _).alloc (by simp) _⟩
        exact own_lit1 rfl (by simp) (by simp)
      have d108 : (h == 108) = false := by simpa using hh108
      by_cases hh120 : h = 120
      · subst hh120
        go_enter Tryd.func60, Tryd.ntmps60
        go_wp2_with (first | (go_at_call 69; refine (hck _ _ rfl _ (by simp)).mono ?_; rintro e w' ⟨rfl, hw'⟩; replace hw' := hw'.symm; subst hw') | (go_at_call 70; refine (h1 _).mono ?_; rintro e w' ⟨rfl, hw'⟩; replace hw' := hw'.symm; subst hw'))
        go_ret2
        refine ⟨_, rfl, ?_, ((Below.refl _ _).alloc (Nat.le_refl _) _).alloc (by simp) _⟩
        exact own_lit1 rfl (by simp) (by simp)
      have d120 : (h == 120) = false := by simpa using hh120
      have ha : (Tp.ar h).toNat = 0 ∧ decide (1 ≤ Tp.ar h) = false := by
        unfold Tp.ar
        simp only [hh62, hh44, hh108, hh120, beq_iff_eq, Bool.or_eq_true, or_false, if_false]
        split <;> simp
      rw [ha.1, ha.2]
      clear hh62 hh44 hh108 hh120 ha
      go_enter Tryd.func60, Tryd.ntmps60
      go_wp2_with (first | (go_at_call 69; refine (hck _ _ rfl _ (by simp)).mono ?_; rintro e w' ⟨rfl, hw'⟩; replace hw' := hw'.symm; subst hw') | (go_at_call 70; refine (h1 _).mono ?_; rintro e w' ⟨rfl, hw'⟩; replace hw' := hw'.symm; subst hw'))
      all_goals
        go_ret2
        exact ⟨_, rfl, own_nil _ _ _ _, below_alloc _ _⟩
    · have HM : Aside (mtL t h = [] ∧ mtB t h = false) := mt_else e hqq
      rw [show Tp.isq t = false by simpa [Tp.isq] using hqq] at hq
      generalize S (Tp.enc t) = s at *
      go_enter Tryd.func60, Tryd.ntmps60
      go_wp2_with (first | (go_at_call 69; refine (hck _ _ rfl _ (by simp)).mono ?_; rintro e w' ⟨rfl, hw'⟩; replace hw' := hw'.symm; subst hw') | (go_at_call 70; refine (h1 _).mono ?_; rintro e w' ⟨rfl, hw'⟩; replace hw' := hw'.symm; subst hw'))
      go_ret2
      rw [HM.out.1, HM.out.2]
      exact ⟨_, rfl, own_nil _ _ _ _, below_alloc _ _⟩

end Go.Proofs.YthdlfeejeboboaaDoor.T3
namespace Go.Proofs.YthdlfeejeboboaaDoor
open Go.RowKit Ck
open T3.Tp (Ty enc cns met)
set_option maxRecDepth 100000

theorem mt_no {t : Ty} {h : UInt8} (hh : h = 62 ∨ h = 44 ∨ h = 108 ∨ h = 120) (e : Ck.mt t h = none) : T3.mtB t h.toNat = false := by
  rcases hh with rfl | rfl | rfl | rfl <;> cases t <;> first | rfl | exact absurd e (by simp [Ck.mt])
theorem mt_yes {t A B : Ty} {h : UInt8} (hh : h = 62 ∨ h = 44 ∨ h = 108 ∨ h = 120) (e : Ck.mt t h = some (A, B)) :
    T3.mtB t h.toNat = true ∧ (T3.mtL t h.toNat = [enc A, enc B] ∨ (T3.mtL t h.toNat = [enc A] ∧ B = A)) ∧ (enc A).length ≤ (enc t).length ∧ (enc B).length ≤ (enc t).length := by
  rcases hh with rfl | rfl | rfl | rfl <;> cases t <;> simp [Ck.mt] at e <;> obtain ⟨rfl, rfl⟩ := e <;> first | exact ⟨rfl, .inl rfl, by simp [T3.Tp.enc] <;> omega, by simp [T3.Tp.enc] <;> omega⟩ | exact ⟨rfl, .inr ⟨rfl, rfl⟩, by simp [T3.Tp.enc], by simp [T3.Tp.enc]⟩

theorem enc_no (c : UInt8) (hc : c = 65 ∨ c = 66) : ∀ t : Ty, c ∉ enc t := by
  intro t
  induction t with
  | ti | tb | tt | tq => rcases hc with rfl | rfl <;> simp [T3.Tp.enc]
  | tl a ih | tx a ih => rcases hc with rfl | rfl <;> simpa [T3.Tp.enc] using ih
  | tf a b iha ihb | tp a b iha ihb => rcases hc with rfl | rfl <;> simp [T3.Tp.enc, iha, ihb]
theorem rep_absent {c : UInt8} {s : List UInt8} (new : List UInt8) (h : c ∉ s) : Lib.replaceAll s [c] new = s := by
  unfold Lib.replaceAll Lib.replace
  split
  · rfl
  · have : Lib.replaceNum s [c] (-1) = 0 := by
      unfold Lib.replaceNum
      rw [if_pos (.inl (by decide)), Lib.count_one, List.count_eq_zero_of_not_mem h]
    rw [this]; rfl
theorem rep_hit (c : UInt8) (a new : List UInt8) (h : c ∉ a) : Lib.replaceAll (a ++ [c]) [c] new = a ++ new := by
  unfold Lib.replaceAll Lib.replace
  split
  · rename_i e; rw [← eq_of_beq e]
  · have hn : Lib.replaceNum (a ++ [c]) [c] (-1) = 1 := by
      unfold Lib.replaceNum
      rw [if_pos (.inl (by decide)), Lib.count_one, List.count_append, List.count_eq_zero_of_not_mem h]; simp
    have hi : Lib.index (a ++ [c]) [c] = (a.length : Int) := by
      clear hn
      induction a with
      | nil => simp [Lib.index]
      | cons b a ih =>
        have hb : ¬ c = b := fun e => h (by simp [e])
        have hb' : (c == b) = false := by simpa using hb
        have := ih (fun e => h (by simp [e]))
        simp only [List.cons_append, Lib.index, List.isPrefixOf, hb', Bool.false_and, Bool.false_eq_true, if_false, this]
        rw [if_neg (by simp)]
        simp
    rw [hn, Lib.replaceK_hit _ _ 0 _ a.length hi]
    simp [Lib.replaceK]
/-- What is given of A and B, as the text tells it. -/
def gt (g : Nat) : List UInt8 := if g = 0 then [65] else if g = 1 then [66] else if g = 2 then [108, 65] else [98]
theorem giv_text (g : Nat) (A B : Ty) : Lib.replaceAll (Lib.replaceAll (gt g) [66] (enc B)) [65] (enc A) = enc (giv g A B) := by
  unfold gt giv
  have a1 : Lib.replaceAll [65] [66] (enc B) = [65] := rep_absent _ (by decide)
  have a2 : Lib.replaceAll [108, 65] [66] (enc B) = [108, 65] := rep_absent _ (by decide)
  have a3 : Lib.replaceAll [98] [66] (enc B) = [98] := rep_absent _ (by decide)
  have a4 : Lib.replaceAll [66] [66] (enc B) = enc B := rep_hit 66 [] _ (by simp)
  split
  · rw [a1]; exact rep_hit 65 [] _ (by simp)
  · split
    · rw [a4]; exact rep_absent _ (enc_no 65 (.inl rfl) B)
    · split
      · rw [a2]; exact rep_hit 65 [108] _ (by decide)
      · rw [a3]; exact rep_absent _ (by decide)
theorem gt_len (g : Nat) : (gt g).length ≤ 2 := by
  unfold gt
  split
  · simp
  · split
    · simp
    · split <;> simp
theorem r1_len (g : Nat) (B : Ty) (h : (enc B).length ≤ 64) : (Lib.replaceAll (gt g) [66] (enc B)).length ≤ 100 := by
  unfold gt
  have a1 : Lib.replaceAll [65] [66] (enc B) = [65] := rep_absent _ (by decide)
  have a2 : Lib.replaceAll [108, 65] [66] (enc B) = [108, 65] := rep_absent _ (by decide)
  have a3 : Lib.replaceAll [98] [66] (enc B) = [98] := rep_absent _ (by decide)
  have a4 : Lib.replaceAll [66] [66] (enc B) = enc B := rep_hit 66 [] _ (by simp)
  split
  · rw [a1]; decide
  · split
    · rw [a4]; omega
    · split
      · rw [a2]; decide
      · rw [a3]; decide
theorem others_drop {A : Ty} {kid j : Nat} {ks : List (Nat × Ty)} {k : Nat × Ty} (h : ks[j]? = some k) : others A kid j (ks.drop j) = if j = kid then others A kid (j + 1) (ks.drop (j + 1)) else if cns k.2 A then others A kid (j + 1) (ks.drop (j + 1)) else .error (23, k.1) := by
  rw [List.drop_eq_getElem_cons (List.getElem?_eq_some_iff.1 h).1, (List.getElem?_eq_some_iff.1 h).2]
  rfl
end Go.Proofs.YthdlfeejeboboaaDoor
