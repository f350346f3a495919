/- What the finder's walk through a part finds. -/
import Derived.Test.YthihnkgjkmaplaaDoorUaq
import Derived.Deep.Cut
import Derived.Deep.DeepCutAuto
namespace Go.Proofs.YthihnkgjkmaplaaDoor
open Go.RowKit Go.Maps
open Go.WideMaps Go.WideElems
set_option maxRecDepth 100000
set_option linter.unusedSimpArgs false

/-- A list lies below a mark. -/
def Low (v : Value) (B0 : Nat) : Prop := ∀ b o n c, v = .slice (some ⟨b, o, none⟩) n c → b < B0
theorem IsNodes.low {w w' : World} {v : Value} {l : List Tr.Nd} {B0 : Nat} (h : IsNodes w v l) (hv : Low v B0) (hB : Below B0 w w') : IsNodes w' v l := by
  rcases h with h | ⟨b, o, c, rfl, h1, h2, h3⟩
  · exact .inl h
  · exact .inr ⟨b, o, c, rfl, h1, Nat.lt_of_lt_of_le h2 hB.size, fun j x hx i u hu => (hB.cell (p := ⟨b, o + j * 8 + i, none⟩) (hv b o _ _ rfl)).trans (h3 j x hx i u hu)⟩
namespace Tr
theorem obL_append (b : List (List UInt8)) (x : Nd) : ∀ (a c : List T) (j : Nat), obL b x j (a ++ c) = obL b x j a ++ obL b x (j + a.length) c
  | [], c, j => by simp [obL]
  | t :: a, c, j => by rw [List.cons_append, obL, obL, obL_append b x a c (j + 1), List.append_assoc]; simp [Nat.add_assoc, Nat.add_comm 1]
theorem add1_len (acc : List (List UInt8)) (o : Option (List UInt8)) : (add1 acc o).length ≤ acc.length + 1 := by
  cases o with
  | none => simp [add1]
  | some n => rw [add1]; split <;> simp
theorem adds_len : ∀ (os : List (Option (List UInt8))) (acc : List (List UInt8)), (adds acc os).length ≤ acc.length + os.length
  | [], acc => by simp [adds]
  | o :: os, acc => by
    have h1 := adds_len os (add1 acc o)
    have h2 := add1_len acc o
    simp only [adds, List.foldl_cons, List.length_cons] at h1 ⊢
    omega
end Tr

theorem IsTexts.kf {w w' : World} {v : Value} {ps : List (List UInt8)} {fb bm tm : Nat} {fv fv' : Value} (h : IsTexts w v ps) (hk : KF w w' fb bm tm fv fv') (hne : ∀ b o n c, v = .slice (some ⟨b, o, none⟩) n c → b ≠ fb ∧ b ≠ bm ∧ b ≠ tm ∧ some b ≠ fv.ownBlock) : IsTexts w' v ps := by
  rcases h with h | ⟨b, o, c, rfl, h1, h2, h3⟩
  · exact .inl h
  · obtain ⟨e1, e2, e3, e4⟩ := hne b o _ _ rfl
    exact .inr ⟨b, o, c, rfl, h1, Nat.lt_of_lt_of_le h2 hk.size, fun j p hp => (World.cell?_of_block (w := w) (a := ⟨b, o + j, none⟩) (hk.block b h2 e1 e2 e3 e4)).trans (h3 j p hp)⟩
/-- A node in a block of its own. -/
def Bx (w : World) (q : Nat) (x : Tr.Nd) : Prop := w.heap[q]? = some (.cells (Tr.ncells x).toArray 45 (0, 0))
theorem Bx.c {w : World} {q : Nat} {x : Tr.Nd} (h : Bx w q x) :
    w.cell? ⟨q, 0, none⟩ = some (.int .i8 x.kind) ∧ w.cell? ⟨q, 1, none⟩ = some (.int .i64 x.kids) ∧ w.cell? ⟨q, 2, none⟩ = some (.int .i64 x.n) ∧ w.cell? ⟨q, 3, none⟩ = some (.string x.s) ∧
    w.cell? ⟨q, 4, none⟩ = some (.string x.t) ∧ w.cell? ⟨q, 5, none⟩ = some (.string x.u) ∧ w.cell? ⟨q, 6, none⟩ = some (.int .i64 x.ln) ∧ w.cell? ⟨q, 7, none⟩ = some (.int .i64 x.co) := by
  unfold Bx at h; simp [World.cell?, h, Tr.ncells]
theorem Bx.kf {w w' : World} {q : Nat} {x : Tr.Nd} {fb bm tm : Nat} {fv fv' : Value} (h : Bx w q x) (hk : KF w w' fb bm tm fv fv') (e1 : q ≠ fb) (e2 : q ≠ bm) (e3 : q ≠ tm) (e4 : some q ≠ fv.ownBlock) : Bx w' q x := by
  unfold Bx at *; rw [hk.block q (Array.getElem?_eq_some_iff.1 h).1 e1 e2 e3 e4]; exact h
theorem FS.next {w : World} {R fb bm tm : Nat} {v : Value} {p : Nat} {b acc : List (List UInt8)} {nb nt : Nat} {fv : Value} (h : FS w R fb bm tm v p b acc nb nt fv) (o : Obj) {x : Int} (hx : x = ((p + 1 : Nat) : Int)) :
    FS ((w.setCell ⟨fb, 1, none⟩ (.int .i64 x)).alloc o).drew R fb bm tm v (p + 1) b acc nb nt fv ∧ KF w ((w.setCell ⟨fb, 1, none⟩ (.int .i64 x)).alloc o).drew fb bm tm fv fv := by
  have hg : w.grownBy (w.setCell ⟨fb, 1, none⟩ (.int .i64 x)) (some fb) := grownBy_set (grownBy_refl _ _) _
  have hB : Below (w.setCell ⟨fb, 1, none⟩ (.int .i64 x)).heap.size (w.setCell ⟨fb, 1, none⟩ (.int .i64 x)) ((w.setCell ⟨fb, 1, none⟩ (.int .i64 x)).alloc o).drew := ((Below.refl _ _).alloc (Nat.le_refl _) _).drew
  refine ⟨?_, (KF.grown hg (fun k e => by cases e; exact .inl rfl)).trans (KF.of hB)⟩
  refine FS.below ?_ hB
  obtain ⟨h1, h2, h3, ⟨f, h4, h5⟩, a1, a2, a3, b1, b2, b3, h6⟩ := h
  refine ⟨h1.setP _ hx, h2.kept hg ?_, h3.kept hg (by simpa using Ne.symm b1), ⟨f, h4.kept hg (by simpa using Ne.symm b2), h5⟩, a1, a2, a3, b1, b2, b3, Nat.le_trans h6 hg.size⟩
  cases hv : fv.ownBlock with
  | none => exact .inl rfl
  | some k => exact .inr (by have := (h2.lt k hv).1; simp; omega)
/-- What is asked of a walk through a part. -/
structure PIn (l : List Tr.Nd) (w : World) (R fb bm tm : Nat) (v : Value) (t : Tr.T) (p : Nat) (b acc : List (List UInt8)) (nb nt : Nat) (fv : Value) : Prop where
  wf : Tr.wf t
  lies : ∃ rest, l.drop p = Tr.flat t ++ rest
  nodes : IsNodes w v l
  fs : FS w R fb bm tm v p b acc nb nt fv
  h1 : nb + 4 * (Tr.flat t).length ≤ 100000
  h2 : nt + (Tr.flat t).length ≤ 100000
  h3 : acc.length + (Tr.flat t).length ≤ 100000
  h4 : b.length + 2 * (Tr.flat t).length ≤ 100000
def POut (w : World) (R fb bm tm : Nat) (v : Value) (t : Tr.T) (p : Nat) (b acc : List (List UInt8)) (nb nt : Nat) (fv : Value) (w' : World) : Prop :=
  ∃ fv', FS w' R fb bm tm v (p + (Tr.flat t).length) b (Tr.adds acc (Tr.obT b t)) (nb + 4 * ((Tr.flat t).length - 1)) (nt + (Tr.flat t).length) fv' ∧ KF w w' fb bm tm fv fv'

set_option maxHeartbeats 4000000 in
/-- A Var. -/
theorem part_var (l : List Tr.Nd) (hf : Fits l) (hlen : l.length ≤ 4096) (v : Value) (R fb bm tm : Nat) (x : Tr.Nd) (hk : x.kind = 4) (p : Nat) (w : World) (b acc : List (List UInt8)) (nb nt : Nat) (fv : Value) (hin : PIn l w R fb bm tm v (.nd x []) p b acc nb nt fv) :
      Calls Tryd.prog 28 #[.pointer (some ⟨fb, 0, none⟩)] w fun e w' => e = .returned (.tuple #[]) ∧ POut w R fb bm tm v (.nd x []) p b acc nb nt fv w' := by
  obtain ⟨hwf, ⟨rest, hd⟩, hl, hfs, hn1, hn2, hn3, hn4⟩ := hin
  have hx : l[p]? = some x := by have := Tr.at_drop (q := 0) hd; simpa [Tr.flat] using this
  have hpl : p < l.length := (List.getElem?_eq_some_iff.1 hx).1
  have hss := hf.str x (List.mem_of_getElem? hx)
  obtain ⟨a, c, rfl⟩ := hl.form
  obtain ⟨b1, o1, rfl, hlc, hb1, hcx⟩ := hl.at hx
  obtain ⟨c0, c1, c2, c3, c4, c5, c6, c7⟩ := agg_cells (o := o1 + p * 8) hcx
  have hfl : (Tr.flat (.nd x [])).length = 1 := by simp [Tr.flat, Tr.flats]
  have HO : Aside (Tr.adds acc (Tr.obT b (.nd x [])) = Tr.met b acc x.s.data.toList) := by
    show _ = _
    rw [Tr.obT, Tr.obL]
    show Tr.add1 acc (Tr.ob1 b x) = _
    unfold Tr.ob1 Tr.met
    by_cases hb : Tr.nm x ∈ b
    · rw [if_neg (fun h => h.2 hb), if_pos (show x.s.data.toList ∈ b from hb)]
    · rw [if_pos ⟨hk, hb⟩, if_neg (show ¬ x.s.data.toList ∈ b from hb)]; rfl
  rw [hfl] at hn1 hn2 hn3 hn4
  have HL : Aside ((Tr.flat (.nd x [])).length = 1) := hfl
  have hnx := fun o => hfs.next o (x := (p : Int) + 1) (by omega)
  obtain ⟨d0, d1, d2, d3, d4⟩ := hfs.blk.c
  have f1 := hfs.blk.f 1
  have hbl := hfs.blk.lt
  have hp1 : (p : Int) < (l.length : Int) := by omega
  have hp0 : (0 : Int) ≤ (p : Int) := by omega
  have hkk : (x.kind == 4) = true := by simpa using hk
  have hmt := fun (w1 : World) (h : FS w1 R fb bm tm (.slice (some ⟨b1, o1, none⟩) l.length c) (p + 1) b acc nb nt fv) => meet_any w1 R fb bm tm _ (p + 1) b acc nb nt fv h (by omega) (by omega) x.s hss
  clear hcx hk hfl hl hd hwf hfs
  go_enter Tryd.func28, Tryd.ntmps28
  go_upto_region 0 with fail
  go_region
  go_wp2_with (go_at_call 43; refine (hmt _ (hnx _).1).mono ?_; rintro e w2 ⟨rfl, fv2, hf2, hk2⟩)
  refine bodyPost_ret (results_none rfl _ _ _) rfl ⟨rfl, ?_⟩
  refine ⟨fv2, ?_, (hnx _).2.trans hk2⟩
  rw [HO.out, HL.out]
  exact hf2
end Go.Proofs.YthihnkgjkmaplaaDoor
