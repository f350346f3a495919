/- What the finder's walk through a part finds: a node with kids. -/
import Derived.Test.YthihnkgjkmaplaaDoorUbh
namespace Go.Proofs.YthihnkgjkmaplaaDoor
open Go.RowKit Go.Maps
open Go.WideMaps Go.WideElems
set_option maxRecDepth 100000
set_option linter.unusedSimpArgs false

namespace Tr
theorem flats_len : ∀ ts : List T, ts.length ≤ (flats ts).length
  | [] => by simp
  | t :: r => by have := flats_len r; have := flat_pos t; simp [flats]; omega
theorem binds_len (x : Nd) (j : Nat) : (binds x j).length ≤ 2 := by
  unfold binds
  split
  · simp
  · split
    · simp
    · split <;> simp
theorem binds_name {x : Nd} (hm : mayB x = true) (j : Nat) : ∀ n ∈ binds x j, n.length ≤ 32 := by
  intro n hn
  have hs := mayB_s hm
  unfold sB at hs
  unfold binds at hn
  split at hn
  · rename_i h; rw [h] at hs; simp at hn; subst hn; exact name_len hs
  · split at hn
    · rename_i h; rw [h] at hs
      have hs' : (nameB (cut32 (nm x)).1 && nameB (cut32 (nm x)).2.1) = true := hs
      simp only [Bool.and_eq_true] at hs'
      simp at hn
      rcases hn with rfl | rfl
      · exact name_len hs'.1
      · exact name_len hs'.2
    · split at hn
      · rename_i h; rw [h.1] at hs; simp at hn; subst hn; exact name_len hs
      · simp at hn
theorem let_kids {x : Nd} (hm : mayB x = true) (h : x.kind = 8) : x.kids = 2 := by
  have hf : fitB x = true := by
    unfold mayB at hm
    simp only [Bool.and_eq_true] at hm
    exact hm.1.1.1.1
  unfold fitB at hf
  rw [h] at hf
  have hf' : (true && x.kids == 2) = true := hf
  simpa using hf'
theorem count_take {ls : List (List UInt8)} {i : Nat} {u : List UInt8} (h : ls[i]? = some u) (b : List (List UInt8)) (n : List UInt8) :
    (ls.take (i + 1) ++ b).count n = if n = u then (ls.take i ++ b).count u + 1 else (ls.take i ++ b).count n := by
  rw [List.take_add_one, h]
  by_cases e : n = u
  · subst e; simp [List.count_append]; omega
  · simp [List.count_append, e, List.count_cons]; intro h2; exact absurd h2.symm e
theorem count_drop {ls : List (List UInt8)} {i : Nat} {u : List UInt8} (h : ls[i]? = some u) (b : List (List UInt8)) (n : List UInt8) :
    0 < (ls.drop i ++ b).count u ∧ (ls.drop (i + 1) ++ b).count n = if n = u then (ls.drop i ++ b).count u - 1 else (ls.drop i ++ b).count n := by
  obtain ⟨hi, he⟩ := List.getElem?_eq_some_iff.1 h
  have hd := List.drop_eq_getElem_cons hi
  rw [he] at hd
  rw [hd]
  clear hd he hi h
  generalize ls.drop (i + 1) = d
  constructor
  · simp
  · by_cases e : n = u
    · subst e; simp [List.count_append]
    · simp [List.count_append, e, List.count_cons]; intro h2; exact absurd h2.symm e
end Tr

theorem IsTexts.below {w w' : World} {v : Value} {ps : List (List UInt8)} (h : IsTexts w v ps) (hB : Below w.heap.size w w') : IsTexts w' v ps := by
  rcases h with h | ⟨b, o, c, rfl, h1, h2, h3⟩
  · exact .inl h
  · exact .inr ⟨b, o, c, rfl, h1, Nat.lt_of_lt_of_le h2 hB.size, fun j p hp => (hB.cell (p := ⟨b, o + j, none⟩) h2).trans (h3 j p hp)⟩

/-- A list of texts that lies apart from the finder. -/
def Tx3 (w : World) (nv : Value) (ps : List (List UInt8)) (fb bm tm : Nat) (fv : Value) : Prop :=
  IsTexts w nv ps ∧ (ps ≠ [] → ∃ b o n c, nv = .slice (some ⟨b, o, none⟩) n c ∧ b < w.heap.size ∧ b ≠ fb ∧ b ≠ bm ∧ b ≠ tm ∧ some b ≠ fv.ownBlock)
theorem Tx3.kf {w w' : World} {nv : Value} {ps : List (List UInt8)} {fb bm tm : Nat} {fv fv' : Value} (h : Tx3 w nv ps fb bm tm fv) (hk : KF w w' fb bm tm fv fv') : Tx3 w' nv ps fb bm tm fv' := by
  obtain ⟨h1, h2⟩ := h
  by_cases hp : ps = []
  · subst hp
    obtain ⟨a, c, rfl⟩ := h1.form
    exact ⟨.inl ⟨rfl, _, _, rfl⟩, fun h => absurd rfl h⟩
  · obtain ⟨b, o, n, c, rfl, e1, e2, e3, e4, e5⟩ := h2 hp
    refine ⟨h1.kf hk (fun b' o' n' c' h => ?_), fun _ => ⟨b, o, n, c, rfl, Nat.lt_of_lt_of_le e1 hk.size, e2, e3, e4, ?_⟩⟩
    · simp only [Value.slice.injEq, Option.some.injEq, Addr.mk.injEq] at h
      obtain ⟨⟨rfl, _⟩, _⟩ := h
      exact ⟨e2, e3, e4, e5⟩
    · rcases hk.row with e | e
      · rw [e]; exact e5
      · intro e'; have := e b e'.symm; omega
/-- What holds while the names of a node are counted. -/
structure Cg (w wr : World) (R fb bm tm : Nat) (v : Value) (p : Nat) (b acc : List (List UInt8)) (nb nt : Nat) (fv0 fv : Value) (nv : Value) (ps : List (List UInt8)) : Prop where
  fs : FS wr R fb bm tm v p b acc nb nt fv
  kf : KF w wr fb bm tm fv0 fv
  tx : Tx3 wr nv ps fb bm tm fv
theorem Cg.bump {w wr w' : World} {R fb bm tm : Nat} {v : Value} {p : Nat} {b b' acc : List (List UInt8)} {nb nt : Nat} {fv0 fv nv : Value} {ps : List (List UInt8)} {g : List UInt8 → Nat} (h : Cg w wr R fb bm tm v p b acc nb nt fv0 fv nv ps) (hc : Cnt w' bm (nb + 1) g) (hg : wr.grownBy w' (some bm)) (e : ∀ n, g n = b'.count n) : Cg w w' R fb bm tm v p b' acc (nb + 1) nt fv0 fv nv ps := by
  have hk : KF wr w' fb bm tm fv fv := KF.grown hg (fun k e => by cases e; exact .inr (.inl rfl))
  exact ⟨h.fs.bump hc hg e, h.kf.trans hk, h.tx.kf hk⟩

set_option maxHeartbeats 8000000 in
theorem part_kids (l : List Tr.Nd) (hlen : l.length ≤ 4096) (hmay : ∀ x ∈ l, Tr.mayB x = true) (v : Value) (B0 R fb bm tm : Nat) (hv : Low v B0) (hB0 : B0 ≤ fb ∧ B0 ≤ bm ∧ B0 ≤ tm ∧ B0 ≤ R) (N : Nat)
    (ih : ∀ (t : Tr.T) (p : Nat) (w : World) (b acc : List (List UInt8)) (nb nt : Nat) (fv : Value), (Tr.flat t).length < N → PIn l w R fb bm tm v t p b acc nb nt fv →
      Calls Tryd.prog 28 #[.pointer (some ⟨fb, 0, none⟩)] w fun e w' => e = .returned (.tuple #[]) ∧ POut w R fb bm tm v t p b acc nb nt fv w')
    (x : Tr.Nd) (ks : List Tr.T) (hk : x.kind ≠ 4) (p : Nat) (w : World) (b acc : List (List UInt8)) (nb nt : Nat) (fv : Value) (hN : (Tr.flat (.nd x ks)).length ≤ N) (hin : PIn l w R fb bm tm v (.nd x ks) p b acc nb nt fv) :
      Calls Tryd.prog 28 #[.pointer (some ⟨fb, 0, none⟩)] w fun e w' => e = .returned (.tuple #[]) ∧ POut w R fb bm tm v (.nd x ks) p b acc nb nt fv w' := by
  obtain ⟨hwf, ⟨rest, hd⟩, hl, hfs, hn1, hn2, hn3, hn4⟩ := hin
  have hx : l[p]? = some x := by have := Tr.at_drop (q := 0) hd; simpa [Tr.flat] using this
  have hpl : p < l.length := (List.getElem?_eq_some_iff.1 hx).1
  have hmx := hmay x (List.mem_of_getElem? hx)
  rw [Tr.wf] at hwf
  obtain ⟨a, c, rfl⟩ := hl.form
  obtain ⟨b1, o1, rfl, hlc, hb1, hcx⟩ := hl.at hx
  obtain ⟨c0, c1, c2, c3, c4, c5, c6, c7⟩ := agg_cells (o := o1 + p * 8) hcx
  have hfl : (Tr.flat (.nd x ks)).length = 1 + (Tr.flats ks).length := by simp [Tr.flat]; omega
  have hd' : l.drop (p + 1) = Tr.flats ks ++ rest := by rw [← List.drop_drop, hd, Tr.flat, List.cons_append, List.drop_succ_cons, List.drop_zero]
  have HO : Aside (Tr.adds acc (Tr.obT b (.nd x ks)) = Tr.adds acc (Tr.obL b x 0 ks)) := by
    show _ = _
    rw [Tr.obT]
    unfold Tr.ob1
    rw [if_neg (fun h => hk h.1)]; rfl
  rw [hfl] at hn1 hn2 hn3 hn4 hN
  have HL : Aside ((Tr.flat (.nd x ks)).length = 1 + (Tr.flats ks).length) := hfl
  have hnx := fun o => hfs.next o (x := (p : Int) + 1) (by omega)
  obtain ⟨d0, d1, d2, d3, d4⟩ := hfs.blk.c
  have f1 := hfs.blk.f 1
  have hbl := hfs.blk.lt
  have hp1 : (p : Int) < (l.length : Int) := by omega
  have hp0 : (0 : Int) ≤ (p : Int) := by omega
  have hkk : (x.kind == 4) = false := by simpa using hk
  have hwR := hfs.lt
  have hB0w : B0 ≤ w.heap.size := by omega
  have hrR := hfs.rowR
  have hrl : ∀ k, fv.ownBlock = some k → k < w.heap.size := fun k hk => (hfs.row.lt k hk).2
  have n1 := hfs.fR
  have n2 := hfs.bR
  have n3 := hfs.tR
  have hksl : ks.length ≤ (Tr.flats ks).length := Tr.flats_len ks
  have HW1 : Aside (x.kids = ks.length) := hwf.1
  have hw2 := hwf.2
  clear hcx hk hfl hd hx hwf
  go_enter Tryd.func28, Tryd.ntmps28
  go_upto_region 0 with fail
  go_region
  go_upto_region 4 with fail
  obtain ⟨hfs1, hkf1⟩ := hnx (.cells #[.int .i8 x.kind, .int .i64 x.kids, .int .i64 x.n, .string x.s, .string x.t, .string x.u, .int .i64 x.ln, .int .i64 x.co] 45)
  have hbx1 : Bx ((w.setCell ⟨fb, 1, none⟩ (.int .i64 ((p : Int) + 1))).alloc (.cells #[.int .i8 x.kind, .int .i64 x.kids, .int .i64 x.n, .string x.s, .string x.t, .string x.u, .int .i64 x.ln, .int .i64 x.co] 45)).drew w.heap.size x := by
    have := heap_alloc_new (w.setCell ⟨fb, 1, none⟩ (.int .i64 ((p : Int) + 1))) (.cells #[.int .i8 x.kind, .int .i64 x.kids, .int .i64 x.n, .string x.s, .string x.t, .string x.u, .int .i64 x.ln, .int .i64 x.co] 45)
    have e : (w.setCell ⟨fb, 1, none⟩ (.int .i64 ((p : Int) + 1))).heap.size = w.heap.size := by simp [World.setCell]
    rw [e] at this
    exact this
  have hs1 : ((w.setCell ⟨fb, 1, none⟩ (.int .i64 ((p : Int) + 1))).alloc (.cells #[.int .i8 x.kind, .int .i64 x.kids, .int .i64 x.n, .string x.s, .string x.t, .string x.u, .int .i64 x.ln, .int .i64 x.co] 45)).drew.heap.size = w.heap.size + 1 := by simp [World.setCell, World.drew]
  generalize ((w.setCell ⟨fb, 1, none⟩ (.int .i64 ((p : Int) + 1))).alloc (.cells #[.int .i8 x.kind, .int .i64 x.kids, .int .i64 x.n, .string x.s, .string x.t, .string x.u, .int .i64 x.ln, .int .i64 x.co] 45)).drew = W1 at *
  have hl1 := hl.low hv (hkf1.low hB0 hB0w hrR)
  have q1 := hbx1.c.2.1
  rw [HW1.out] at q1
  clear hnx d0 d1 d2 d3 d4 f1 hfs c0 c1 c2 c3 c4 c5 c6 c7
  go_wp2_with fail
  go_loopg [35] ks.length (fun g t wr => ∃ (ds rs : List Tr.T) (fv1 : Value), Aside (ks = ds ++ rs) ∧ rs.length = g ∧ ds.length + g = ks.length ∧ t = .int .i64 (ds.length : Int) ∧ Aside (FS wr R fb bm tm (.slice (some ⟨b1, o1, none⟩) l.length c) (p + 1 + (Tr.flats ds).length) b (Tr.adds acc (Tr.obL b x 0 ds)) (nb + 4 * (Tr.flats ds).length) (nt + 1 + (Tr.flats ds).length) fv1) ∧ Aside (KF W1 wr fb bm tm fv fv1))
  case atStart => exact ⟨[], ks, fv, rfl, rfl, by simp, rfl, by show FS _ _ _ _ _ _ _ _ _ _ _ _; simpa [Tr.flats, Tr.obL, Tr.adds] using hfs1.more (Nat.le_refl nb) (Nat.le_succ nt), KF.refl _ _ _ _ _⟩
  case round =>
    obtain ⟨ds, rs, fv1, HK, hrg, hdg, rfl, HF, HKF⟩ := hrel
    cases rs with
    | nil =>
      have hkl : ¬ (ds.length : Int) < (ks.length : Int) := by simp at hrg; omega
      go_wp2_with fail
      refine bodyPost_end (results_none rfl _ _ _) rfl ⟨rfl, fv1, ?_, hkf1.trans HKF.out⟩
      have e := HK.out
      rw [List.append_nil] at e
      rw [HO.out, HL.out, e]
      have := HF.out
      rw [← Nat.add_assoc, Nat.add_sub_cancel_left, ← Nat.add_assoc]
      exact this
    | cons t rs =>
      simp only [List.length_cons] at hrg
      have hkl : (ds.length : Int) < (ks.length : Int) := by omega
      have hks := HK.out
      have hfls : Tr.flats ks = Tr.flats ds ++ (Tr.flat t ++ Tr.flats rs) := by rw [hks, Tr.flats_append, Tr.flats]
      have hflen : (Tr.flats ks).length = (Tr.flats ds).length + ((Tr.flat t).length + (Tr.flats rs).length) := by rw [hfls]; simp
      have hdt : ∃ rest', l.drop (p + 1 + (Tr.flats ds).length) = Tr.flat t ++ rest' := ⟨Tr.flats rs ++ rest, by rw [← List.drop_drop, hd', hfls, List.append_assoc, List.drop_left' rfl, List.append_assoc]⟩
      have hwt : Tr.wf t := by
        rw [hks] at hw2
        have := (Tr.wfs_append ds (t :: rs)).1 hw2
        exact this.2.1
      have hj : x.kind = 8 → ds.length < 2 := fun h => by have := Tr.let_kids hmx h; rw [HW1.out] at this; omega
      have hbl2 := Tr.binds_len x ds.length
      have hbn := Tr.binds_name hmx ds.length
      have hbd := binds_any x hmx ds.length hj
      rw [val_node] at hbd
      have HOL : Aside (Tr.adds (Tr.adds acc (Tr.obL b x 0 ds)) (Tr.obT (Tr.binds x ds.length ++ b) t) = Tr.adds acc (Tr.obL b x 0 (ds ++ [t]))) := by
        show _ = _
        rw [Tr.obL_append, Tr.adds_append]
        simp [Tr.obL]
      have hal := Tr.adds_len (Tr.obL b x 0 ds) acc
      rw [Tr.ob_lens] at hal
      have HT : Aside (Tr.flats (ds ++ [t]) = Tr.flats ds ++ Tr.flat t) := by show _ = _; rw [Tr.flats_append]; simp [Tr.flats]
      have HF' := HF.out
      have HKF' := HKF.out
      have hsz : W1.heap.size ≤ wr.heap.size := HKF'.size
      obtain ⟨z0, z1, z2, z3, z4, z5, z6, z7⟩ := (hbx1.kf HKF' (by omega) (by omega) (by omega) (fun e => by have := hrl _ e.symm; omega)).c
      clear hks hfls
      generalize Tr.binds x ds.length = ps at *
      have hpp : ∀ (i : Nat) (u : List UInt8), ps[i]? = some u → (S u).size ≤ maxLen := fun i u hu => by rw [S_size]; have := hbn u (List.mem_of_getElem? hu); unfold maxLen; omega
      have HPP : Aside (∀ (i : Nat) (u : List UInt8), ps[i]? = some u → (S u).size ≤ maxLen) := hpp
      clear hbn hpp HF HKF
      generalize Tr.adds acc (Tr.obL b x 0 ds) = acc1 at *
      generalize hdl : (Tr.flats ds).length = dl at *
      have HDL : Aside ((Tr.flats ds).length = dl) := hdl
      clear hdl
      have HF2 : Aside (FS wr R fb bm tm (.slice (some ⟨b1, o1, none⟩) l.length c) (p + 1 + dl) b acc1 (nb + 4 * dl) (nt + 1 + dl) fv1) := HF'
      have HKF2 : Aside (KF W1 wr fb bm tm fv fv1) := HKF'
      have hrl1 : ∀ k, fv1.ownBlock = some k → k < wr.heap.size := fun k hk => (HF'.row.lt k hk).2
      have hwr1 := HF'.lt
      have HRL : Aside (∀ k, fv1.ownBlock = some k → k < wr.heap.size) := hrl1
      clear HF' HKF' hrl1
      go_wp2_with (go_at_call 44; refine (hbd _).mono ?_; rintro e w2 ⟨na, nc, rfl, htx, hhi, hB2⟩)
      have hCg : Cg W1 w2 R fb bm tm (.slice (some ⟨b1, o1, none⟩) l.length c) (p + 1 + dl) (ps.take 0 ++ b) acc1 (nb + 4 * dl + 0) (nt + 1 + dl) fv fv1 (.slice na ps.length nc) ps := by
        refine ⟨HF2.out.below hB2, HKF2.out.trans (KF.of hB2), htx, fun hne => ?_⟩
        rcases htx with ⟨h, _⟩ | ⟨b', o', c', h, _, h2, _⟩
        · exact absurd h hne
        · have := hhi b' o' _ _ h
          exact ⟨b', o', _, _, h, h2, by omega, by omega, by omega, fun e => by have := HRL.out _ e.symm; omega⟩
      have HCg : Aside (_ : Prop) := hCg
      clear hCg htx hhi hbd z0 z1 z2 z3 z4 z5 z6 z7 HF2 HKF2 HRL hB2 hwr1 hsz
      go_loopg [43] ps.length (fun g t w3 => ∃ i : Nat, i + g = ps.length ∧ t = .int .i64 (i : Int) ∧ Aside (Cg W1 w3 R fb bm tm (.slice (some ⟨b1, o1, none⟩) l.length c) (p + 1 + dl) (ps.take i ++ b) acc1 (nb + 4 * dl + i) (nt + 1 + dl) fv fv1 (.slice na ps.length nc) ps))
      case atStart => exact ⟨0, by omega, rfl, HCg⟩
      case round =>
        clear HCg
        obtain ⟨i, hig, rfl, HC⟩ := hrel
        have hCfs := HC.out.fs
        obtain ⟨d0, d1, d2, d3, d4⟩ := hCfs.blk.c
        have hCb := hCfs.bnd
        by_cases hi : i < ps.length
        · have hi' : (i : Int) < (ps.length : Int) := by omega
          have hi0 : (0 : Int) ≤ (i : Int) := by omega
          obtain ⟨u, hu⟩ : ∃ u, ps[i]? = some u := ⟨ps[i], List.getElem?_eq_getElem hi⟩
          obtain ⟨b2, o2, rfl, hn2', _, hcu⟩ := HC.out.tx.1.at hu
          have hsu := HPP.out i u hu
          have hlk := hCb.look (S u) hsu
          have hcl : (ps.take i ++ b).count u ≤ 2 + b.length := by
            have h1 := List.count_le_length (a := u) (l := ps.take i ++ b)
            rw [List.length_append, List.length_take] at h1
            omega
          have HCT : Aside (∀ n, (if n = u then (ps.take i ++ b).count u + 1 else (ps.take i ++ b).count n) = (ps.take (i + 1) ++ b).count n) := fun n => (Tr.count_take hu b n).symm
          rw [S_list] at hlk
          have HSL : Aside ((S u).data.toList = u) := S_list u
          clear hu hCfs
          generalize S u = su at *
          generalize (ps.take i ++ b).count u = z at *
          go_wp2_with (at_mapUpdate; refine wpList_count _ rfl _ _ _ rfl bm (nb + 4 * dl + i) _ rfl hCb (by omega) su hsu rfl _ rfl (z + 1) (by simp) (by omega) ?_; intro w5 hc5 hg5)
          go_roundg (gk - 1)
          case measure => omega
          case rel =>
            rw [HSL.out] at hc5
            exact ⟨i + 1, by omega, by go_num, HC.out.bump hc5 hg5 HCT.out⟩
        · have hi' : ¬ (i : Int) < (ps.length : Int) := by omega
          have hin2 : i = ps.length := by omega
          have HC2 : Aside (Cg W1 wr R fb bm tm (.slice (some ⟨b1, o1, none⟩) l.length c) (p + 1 + dl) (ps ++ b) acc1 (nb + 4 * dl + ps.length) (nt + 1 + dl) fv fv1 (.slice na ps.length nc) ps) := by
            have := HC.out
            rw [hin2, List.take_length] at this
            exact this
          have hrec := ih t (p + 1 + dl) wr (ps ++ b) acc1 (nb + 4 * dl + ps.length) (nt + 1 + dl) fv1 (by omega) ⟨hwt, hdt, hl1.low hv (HC2.out.kf.low hB0 (by omega) hrR), HC2.out.fs, by omega, by omega, by omega, by simp; omega⟩
          clear HC hCfs hCb hin2 d0 d1 d2 d3 d4
          go_wp2_with (go_at_call 28; refine hrec.mono ?_; rintro e w4 ⟨rfl, fv2, hfs2, hkf2⟩)
          have HC3 : Aside (Cg W1 w4 R fb bm tm (.slice (some ⟨b1, o1, none⟩) l.length c) (p + 1 + dl + (Tr.flat t).length) (ps.drop 0 ++ b) (Tr.adds acc1 (Tr.obT (ps ++ b) t)) (nb + 4 * dl + ps.length + 4 * ((Tr.flat t).length - 1) + 0) (nt + 1 + dl + (Tr.flat t).length) fv fv2 (.slice na ps.length nc) ps) :=
            ⟨hfs2, HC2.out.kf.trans hkf2, HC2.out.tx.kf hkf2⟩
          have htp := Tr.flat_pos t
          clear HC2 hfs2 hkf2 hrec
          go_loopg [59] ps.length (fun g t' w3 => ∃ i : Nat, i + g = ps.length ∧ t' = .int .i64 (i : Int) ∧ Aside (Cg W1 w3 R fb bm tm (.slice (some ⟨b1, o1, none⟩) l.length c) (p + 1 + dl + (Tr.flat t).length) (ps.drop i ++ b) (Tr.adds acc1 (Tr.obT (ps ++ b) t)) (nb + 4 * dl + ps.length + 4 * ((Tr.flat t).length - 1) + i) (nt + 1 + dl + (Tr.flat t).length) fv fv2 (.slice na ps.length nc) ps))
          case atStart => exact ⟨0, by omega, rfl, HC3⟩
          case round =>
            clear HC3
            obtain ⟨i, hig, rfl, HC⟩ := hrel
            have hCfs := HC.out.fs
            obtain ⟨d0, d1, d2, d3, d4⟩ := hCfs.blk.c
            have hCb := hCfs.bnd
            by_cases hi : i < ps.length
            · have hi' : (i : Int) < (ps.length : Int) := by omega
              have hi0 : (0 : Int) ≤ (i : Int) := by omega
              obtain ⟨u, hu⟩ : ∃ u, ps[i]? = some u := ⟨ps[i], List.getElem?_eq_getElem hi⟩
              obtain ⟨b2, o2, rfl, hn2', _, hcu⟩ := HC.out.tx.1.at hu
              have hsu := HPP.out i u hu
              have hlk := hCb.look (S u) hsu
              have hcl : (ps.drop i ++ b).count u ≤ 2 + b.length := by
                have h1 := List.count_le_length (a := u) (l := ps.drop i ++ b)
                rw [List.length_append, List.length_drop] at h1
                omega
              have hcp := (Tr.count_drop hu b u).1
              have HCT : Aside (∀ n, (if n = u then (ps.drop i ++ b).count u - 1 else (ps.drop i ++ b).count n) = (ps.drop (i + 1) ++ b).count n) := fun n => ((Tr.count_drop hu b n).2).symm
              rw [S_list] at hlk
              have HSL : Aside ((S u).data.toList = u) := S_list u
              clear hu hCfs
              generalize S u = su at *
              generalize (ps.drop i ++ b).count u = z at *
              go_wp2_with (at_mapUpdate; refine wpList_count _ rfl _ _ _ rfl bm (nb + 4 * dl + ps.length + 4 * ((Tr.flat t).length - 1) + i) _ rfl hCb (by omega) su hsu rfl _ rfl (z - 1) (by omega) (by omega) ?_; intro w5 hc5 hg5)
              go_roundg (gk - 1)
              case measure => omega
              case rel =>
                rw [HSL.out] at hc5
                exact ⟨i + 1, by omega, by go_num, HC.out.bump hc5 hg5 HCT.out⟩
            · have hi' : ¬ (i : Int) < (ps.length : Int) := by omega
              have hin2 : i = ps.length := by omega
              have HC2 : Aside (Cg W1 wr R fb bm tm (.slice (some ⟨b1, o1, none⟩) l.length c) (p + 1 + dl + (Tr.flat t).length) b (Tr.adds acc1 (Tr.obT (ps ++ b) t)) (nb + 4 * dl + ps.length + 4 * ((Tr.flat t).length - 1) + ps.length) (nt + 1 + dl + (Tr.flat t).length) fv fv2 (.slice na ps.length nc) ps) := by
                have := HC.out
                rw [hin2, List.drop_length] at this
                exact this
              clear HC hCfs hCb hin2 d0 d1 d2 d3 d4
              go_wp2_with fail
              go_roundg rs.length
              case measure => omega
              case rel =>
                refine ⟨ds ++ [t], rs, fv2, ?_, rfl, by simp; omega, by simp, ?_, HC2.out.kf⟩
                · show _ = _; rw [HK.out]; simp
                · show FS _ _ _ _ _ _ _ _ _ _ _ _
                  rw [← HOL.out, HT.out, List.length_append, HDL.out]
                  have := HC2.out.fs.more (nb' := nb + 4 * (dl + (Tr.flat t).length)) (nt' := nt + 1 + (dl + (Tr.flat t).length)) (by omega) (by omega)
                  rw [← Nat.add_assoc]
                  exact this
end Go.Proofs.YthihnkgjkmaplaaDoor
