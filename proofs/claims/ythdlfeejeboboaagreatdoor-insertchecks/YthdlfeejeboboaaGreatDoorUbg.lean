/- Package insert: within. -/
import Derived.Test.YthdlfeejeboboaaGreatDoorUax
import Derived.ArgAppend
namespace Go.Proofs.YthdlfeejeboboaaGreatDoor
open Go.RowKit Go.Maps Ck
open T3.Tp (Ty enc cns met)
open Tr (T Nd nm)
set_option maxRecDepth 100000
set_option linter.unusedSimpArgs false
set_option linter.unusedVariables false

theorem tyIn : Tryz.prog.underlying 23 = some (.slice 9) := by kernel_rfl
theorem infIn : (Tryz.prog.info? 9).map (fun i => (i.zero, i.size, i.bytes)) = some (some (.string ⟨#[]⟩), 1, 16) := by kernel_rfl
theorem nm_S (x : Nd) : S (nm x) = x.s := by unfold nm; cases x.s; simp [S]
theorem ar_end {w W w2 : World} {L M : List (List UInt8)} {base n : Nat} {v : Value} {ys : List Value} (h : w2.ownsRow base 9 1 v n (tcells L ++ ys)) (hy : ys = tcells M) (hn : n = (L ++ M).length) (hM : M ≠ []) (hB : Below w.heap.size w W) (hg : W.grownBy w2 none) : IsAr w2 v (L ++ M) ∧ Below w.heap.size w w2 := by
  subst hy hn
  rw [← tcells_app] at h
  exact ⟨IsAr.own h (by simp [hM]), hB.grown hg hB.size (fun q e => by cases e)⟩

set_option maxHeartbeats 8000000 in
theorem within_s5 (x : Nd) (hs : x.s.size ≤ maxLen) (L : List (List UInt8)) (hL : L.length ≤ 100000) (w : World) (hk : x.kind = 5) (b o c : Nat) (hc : L.length ≤ c) (hb : b < w.heap.size) (hty : ∃ cur, w.heap[b]? = some (.cells cur 9 (0, 0))) (hcell : ∀ j p, L[j]? = some p → w.cell? ⟨b, o + j, none⟩ = some (.string (S p))) :
    Calls Tryz.prog 63 #[.agg #[.int .i8 x.kind, .int .i64 x.kids, .int .i64 x.n, .string x.s, .string x.t, .string x.u, .int .i64 x.ln, .int .i64 x.co], .slice (some ⟨b, o, none⟩) L.length c] w fun e w' => ∃ v', e = .returned v' ∧ IsAr w' v' (In.within x L) ∧ Below w.heap.size w w' := by
  obtain ⟨i0, hi, hz0, hz1, hz2⟩ := info_parts infIn
  have hBw : Below w.heap.size w (w.alloc (.cells #[.int .i8 x.kind, .int .i64 x.kids, .int .i64 x.n, .string x.s, .string x.t, .string x.u, .int .i64 x.ln, .int .i64 x.co] 72)) := (Below.refl _ _).alloc (Nat.le_refl _) _
  have hbx := block_cells (heap_alloc_new w (.cells #[.int .i8 x.kind, .int .i64 x.kids, .int .i64 x.n, .string x.s, .string x.t, .string x.u, .int .i64 x.ln, .int .i64 x.co] 72))
  have p0 : (w.alloc (.cells #[.int .i8 x.kind, .int .i64 x.kids, .int .i64 x.n, .string x.s, .string x.t, .string x.u, .int .i64 x.ln, .int .i64 x.co] 72)).cell? ⟨w.heap.size, 0, none⟩ = some (.int .i8 x.kind) := hbx.1 0
  have p3 : (w.alloc (.cells #[.int .i8 x.kind, .int .i64 x.kids, .int .i64 x.n, .string x.s, .string x.t, .string x.u, .int .i64 x.ln, .int .i64 x.co] 72)).cell? ⟨w.heap.size, 3, none⟩ = some (.string x.s) := hbx.1 3
  have hwi : w.heap.size < (w.alloc (.cells #[.int .i8 x.kind, .int .i64 x.kids, .int .i64 x.n, .string x.s, .string x.t, .string x.u, .int .i64 x.ln, .int .i64 x.co] 72)).heap.size := by simp
  clear hbx
  have HO0 : ∀ j p, L[j]? = some p → (w.alloc (.cells #[.int .i8 x.kind, .int .i64 x.kids, .int .i64 x.n, .string x.s, .string x.t, .string x.u, .int .i64 x.ln, .int .i64 x.co] 72)).cell? ⟨b, o + j, none⟩ = some (.string (S p)) := fun j p hp => (hBw.cell (p := ⟨b, o + j, none⟩) hb).trans (hcell j p hp)
  have hb0 := Nat.lt_of_lt_of_le hb hBw.size
  have hty0 : ∃ cur, (w.alloc (.cells #[.int .i8 x.kind, .int .i64 x.kids, .int .i64 x.n, .string x.s, .string x.t, .string x.u, .int .i64 x.ln, .int .i64 x.co] 72)).heap[b]? = some (.cells cur 9 (0, 0)) := by obtain ⟨cur, e⟩ := hty; exact ⟨cur, (hBw.block b hb).trans e⟩
  clear hty
  have hc' : (L.length : Int) ≤ (c : Int) := by omega
  clear hcell
  have HE : Aside (In.within x L = L ++ [nm x]) := by show _ = _; unfold In.within; rw [if_pos (by omega)]
  replace p0 := p0.trans (congrArg (fun z => some (Value.int .i8 z)) hk)
  clear hk
  go_enter Tryz.func63, Tryz.ntmps63
  go_upto_region 1 with fail
  have HBw : Aside (Below w.heap.size w (w.alloc (.cells #[.int .i8 x.kind, .int .i64 x.kids, .int .i64 x.n, .string x.s, .string x.t, .string x.u, .int .i64 x.ln, .int .i64 x.co] 72))) := hBw
  generalize w.alloc (.cells #[.int .i8 x.kind, .int .i64 x.kids, .int .i64 x.n, .string x.s, .string x.t, .string x.u, .int .i64 x.ln, .int .i64 x.co] 72) = W0 at *
  obtain ⟨cb, hcb⟩ : ∃ cb, cb = w.heap.size := ⟨_, rfl⟩
  rw [← hcb] at p0 p3 hwi ⊢
  clear hcb hBw
  have HO : ∀ j u, (tcells L)[j]? = some u → (W0.alloc (.cells #[.string x.s] 9)).cell? ((⟨b, o, none⟩ : Addr).add j) = some u := ar_olds fun j p hp => (((Below.refl _ _).alloc (Nat.le_refl _) _ : Below W0.heap.size W0 _).cell (p := ⟨b, o + j, none⟩) hb0).trans (HO0 j p hp)
  clear HO0
  have HN := cells_list_new W0 [.string x.s] 9
  have HB1 : Aside (Below w.heap.size w (W0.alloc (.cells #[.string x.s] 9))) := balloc HBw.out _
  go_wp2_with (at_builtin; go_must (refine wpList_append_grows _ rfl _ _ 23 rfl 9 i0 _ 1 16 tyIn hi hz0 hz1 hz2 rfl (by decide) (some ⟨b, o, none⟩) L.length L.length (tcells L) rfl (fun h => by cases h) (by simp [tcells_len]) (fun q hq => by cases hq; exact HO) ⟨W0.heap.size, 0, none⟩ 1 1 [.string x.s] rfl rfl HN (fun u hu => by simp at hu; subst hu; rfl) (by omega) (by unfold maxLen; omega) (by omega) ?_); intro v2 w2 hown2 hg2)
  go_ret
  rw [HE.out]
  obtain ⟨a1, a2⟩ := ar_end (L := L) (M := [nm x]) hown2 (by unfold tcells; simp [nm_S]) (by simp) (by simp) HB1.out hg2
  exact ⟨v2, rfl, a1, a2⟩

set_option maxHeartbeats 8000000 in
theorem within_n5 (x : Nd) (hs : x.s.size ≤ maxLen) (L : List (List UInt8)) (hL : L.length ≤ 100000) (w : World) (hk : x.kind = 5) (hL0 : L = []) :
    Calls Tryz.prog 63 #[.agg #[.int .i8 x.kind, .int .i64 x.kids, .int .i64 x.n, .string x.s, .string x.t, .string x.u, .int .i64 x.ln, .int .i64 x.co], .slice none 0 0] w fun e w' => ∃ v', e = .returned v' ∧ IsAr w' v' (In.within x L) ∧ Below w.heap.size w w' := by
  obtain ⟨i0, hi, hz0, hz1, hz2⟩ := info_parts infIn
  have hBw : Below w.heap.size w (w.alloc (.cells #[.int .i8 x.kind, .int .i64 x.kids, .int .i64 x.n, .string x.s, .string x.t, .string x.u, .int .i64 x.ln, .int .i64 x.co] 72)) := (Below.refl _ _).alloc (Nat.le_refl _) _
  have hbx := block_cells (heap_alloc_new w (.cells #[.int .i8 x.kind, .int .i64 x.kids, .int .i64 x.n, .string x.s, .string x.t, .string x.u, .int .i64 x.ln, .int .i64 x.co] 72))
  have p0 : (w.alloc (.cells #[.int .i8 x.kind, .int .i64 x.kids, .int .i64 x.n, .string x.s, .string x.t, .string x.u, .int .i64 x.ln, .int .i64 x.co] 72)).cell? ⟨w.heap.size, 0, none⟩ = some (.int .i8 x.kind) := hbx.1 0
  have p3 : (w.alloc (.cells #[.int .i8 x.kind, .int .i64 x.kids, .int .i64 x.n, .string x.s, .string x.t, .string x.u, .int .i64 x.ln, .int .i64 x.co] 72)).cell? ⟨w.heap.size, 3, none⟩ = some (.string x.s) := hbx.1 3
  have hwi : w.heap.size < (w.alloc (.cells #[.int .i8 x.kind, .int .i64 x.kids, .int .i64 x.n, .string x.s, .string x.t, .string x.u, .int .i64 x.ln, .int .i64 x.co] 72)).heap.size := by simp
  clear hbx
  subst hL0
  have HE : Aside (In.within x [] = [] ++ [nm x]) := by show _ = _; unfold In.within; rw [if_pos (by omega)]
  replace p0 := p0.trans (congrArg (fun z => some (Value.int .i8 z)) hk)
  clear hk
  go_enter Tryz.func63, Tryz.ntmps63
  go_upto_region 1 with fail
  have HBw : Aside (Below w.heap.size w (w.alloc (.cells #[.int .i8 x.kind, .int .i64 x.kids, .int .i64 x.n, .string x.s, .string x.t, .string x.u, .int .i64 x.ln, .int .i64 x.co] 72))) := hBw
  generalize w.alloc (.cells #[.int .i8 x.kind, .int .i64 x.kids, .int .i64 x.n, .string x.s, .string x.t, .string x.u, .int .i64 x.ln, .int .i64 x.co] 72) = W0 at *
  obtain ⟨cb, hcb⟩ : ∃ cb, cb = w.heap.size := ⟨_, rfl⟩
  rw [← hcb] at p0 p3 hwi ⊢
  clear hcb hBw
  have HN := cells_list_new W0 [.string x.s] 9
  have HB1 : Aside (Below w.heap.size w (W0.alloc (.cells #[.string x.s] 9))) := balloc HBw.out _
  go_wp2_with (at_builtin; go_must (refine wpList_append_grows _ rfl _ _ 23 rfl 9 i0 _ 1 16 tyIn hi hz0 hz1 hz2 rfl (by decide) none 0 0 [] rfl (fun _ => ⟨rfl, rfl⟩) (by simp [tcells_len]) (fun q hq => by cases hq) ⟨W0.heap.size, 0, none⟩ 1 1 [.string x.s] rfl rfl HN (fun u hu => by simp at hu; subst hu; rfl) (by omega) (by unfold maxLen; omega) (by omega) ?_); intro v2 w2 hown2 hg2)
  go_ret
  rw [HE.out]
  obtain ⟨a1, a2⟩ := ar_end (L := []) (M := [nm x]) hown2 (by unfold tcells; simp [nm_S]) (by simp) (by simp) HB1.out hg2
  exact ⟨v2, rfl, a1, a2⟩

set_option maxHeartbeats 8000000 in
theorem within_s8 (x : Nd) (hs : x.s.size ≤ maxLen) (L : List (List UInt8)) (hL : L.length ≤ 100000) (w : World) (hk : x.kind = 8) (b o c : Nat) (hc : L.length ≤ c) (hb : b < w.heap.size) (hty : ∃ cur, w.heap[b]? = some (.cells cur 9 (0, 0))) (hcell : ∀ j p, L[j]? = some p → w.cell? ⟨b, o + j, none⟩ = some (.string (S p))) :
    Calls Tryz.prog 63 #[.agg #[.int .i8 x.kind, .int .i64 x.kids, .int .i64 x.n, .string x.s, .string x.t, .string x.u, .int .i64 x.ln, .int .i64 x.co], .slice (some ⟨b, o, none⟩) L.length c] w fun e w' => ∃ v', e = .returned v' ∧ IsAr w' v' (In.within x L) ∧ Below w.heap.size w w' := by
  obtain ⟨i0, hi, hz0, hz1, hz2⟩ := info_parts infIn
  have hBw : Below w.heap.size w (w.alloc (.cells #[.int .i8 x.kind, .int .i64 x.kids, .int .i64 x.n, .string x.s, .string x.t, .string x.u, .int .i64 x.ln, .int .i64 x.co] 72)) := (Below.refl _ _).alloc (Nat.le_refl _) _
  have hbx := block_cells (heap_alloc_new w (.cells #[.int .i8 x.kind, .int .i64 x.kids, .int .i64 x.n, .string x.s, .string x.t, .string x.u, .int .i64 x.ln, .int .i64 x.co] 72))
  have p0 : (w.alloc (.cells #[.int .i8 x.kind, .int .i64 x.kids, .int .i64 x.n, .string x.s, .string x.t, .string x.u, .int .i64 x.ln, .int .i64 x.co] 72)).cell? ⟨w.heap.size, 0, none⟩ = some (.int .i8 x.kind) := hbx.1 0
  have p3 : (w.alloc (.cells #[.int .i8 x.kind, .int .i64 x.kids, .int .i64 x.n, .string x.s, .string x.t, .string x.u, .int .i64 x.ln, .int .i64 x.co] 72)).cell? ⟨w.heap.size, 3, none⟩ = some (.string x.s) := hbx.1 3
  have hwi : w.heap.size < (w.alloc (.cells #[.int .i8 x.kind, .int .i64 x.kids, .int .i64 x.n, .string x.s, .string x.t, .string x.u, .int .i64 x.ln, .int .i64 x.co] 72)).heap.size := by simp
  clear hbx
  have HO0 : ∀ j p, L[j]? = some p → (w.alloc (.cells #[.int .i8 x.kind, .int .i64 x.kids, .int .i64 x.n, .string x.s, .string x.t, .string x.u, .int .i64 x.ln, .int .i64 x.co] 72)).cell? ⟨b, o + j, none⟩ = some (.string (S p)) := fun j p hp => (hBw.cell (p := ⟨b, o + j, none⟩) hb).trans (hcell j p hp)
  have hb0 := Nat.lt_of_lt_of_le hb hBw.size
  have hty0 : ∃ cur, (w.alloc (.cells #[.int .i8 x.kind, .int .i64 x.kids, .int .i64 x.n, .string x.s, .string x.t, .string x.u, .int .i64 x.ln, .int .i64 x.co] 72)).heap[b]? = some (.cells cur 9 (0, 0)) := by obtain ⟨cur, e⟩ := hty; exact ⟨cur, (hBw.block b hb).trans e⟩
  clear hty
  have hc' : (L.length : Int) ≤ (c : Int) := by omega
  clear hcell
  have HE : Aside (In.within x L = L ++ [nm x]) := by show _ = _; unfold In.within; rw [if_pos (by omega)]
  replace p0 := p0.trans (congrArg (fun z => some (Value.int .i8 z)) hk)
  clear hk
  go_enter Tryz.func63, Tryz.ntmps63
  go_upto_region 1 with fail
  have HBw : Aside (Below w.heap.size w (w.alloc (.cells #[.int .i8 x.kind, .int .i64 x.kids, .int .i64 x.n, .string x.s, .string x.t, .string x.u, .int .i64 x.ln, .int .i64 x.co] 72))) := hBw
  generalize w.alloc (.cells #[.int .i8 x.kind, .int .i64 x.kids, .int .i64 x.n, .string x.s, .string x.t, .string x.u, .int .i64 x.ln, .int .i64 x.co] 72) = W0 at *
  obtain ⟨cb, hcb⟩ : ∃ cb, cb = w.heap.size := ⟨_, rfl⟩
  rw [← hcb] at p0 p3 hwi ⊢
  clear hcb hBw
  have HO : ∀ j u, (tcells L)[j]? = some u → (W0.alloc (.cells #[.string x.s] 9)).cell? ((⟨b, o, none⟩ : Addr).add j) = some u := ar_olds fun j p hp => (((Below.refl _ _).alloc (Nat.le_refl _) _ : Below W0.heap.size W0 _).cell (p := ⟨b, o + j, none⟩) hb0).trans (HO0 j p hp)
  clear HO0
  have HN := cells_list_new W0 [.string x.s] 9
  have HB1 : Aside (Below w.heap.size w (W0.alloc (.cells #[.string x.s] 9))) := balloc HBw.out _
  go_wp2_with (at_builtin; go_must (refine wpList_append_grows _ rfl _ _ 23 rfl 9 i0 _ 1 16 tyIn hi hz0 hz1 hz2 rfl (by decide) (some ⟨b, o, none⟩) L.length L.length (tcells L) rfl (fun h => by cases h) (by simp [tcells_len]) (fun q hq => by cases hq; exact HO) ⟨W0.heap.size, 0, none⟩ 1 1 [.string x.s] rfl rfl HN (fun u hu => by simp at hu; subst hu; rfl) (by omega) (by unfold maxLen; omega) (by omega) ?_); intro v2 w2 hown2 hg2)
  go_ret
  rw [HE.out]
  obtain ⟨a1, a2⟩ := ar_end (L := L) (M := [nm x]) hown2 (by unfold tcells; simp [nm_S]) (by simp) (by simp) HB1.out hg2
  exact ⟨v2, rfl, a1, a2⟩

set_option maxHeartbeats 8000000 in
theorem within_n8 (x : Nd) (hs : x.s.size ≤ maxLen) (L : List (List UInt8)) (hL : L.length ≤ 100000) (w : World) (hk : x.kind = 8) (hL0 : L = []) :
    Calls Tryz.prog 63 #[.agg #[.int .i8 x.kind, .int .i64 x.kids, .int .i64 x.n, .string x.s, .string x.t, .string x.u, .int .i64 x.ln, .int .i64 x.co], .slice none 0 0] w fun e w' => ∃ v', e = .returned v' ∧ IsAr w' v' (In.within x L) ∧ Below w.heap.size w w' := by
  obtain ⟨i0, hi, hz0, hz1, hz2⟩ := info_parts infIn
  have hBw : Below w.heap.size w (w.alloc (.cells #[.int .i8 x.kind, .int .i64 x.kids, .int .i64 x.n, .string x.s, .string x.t, .string x.u, .int .i64 x.ln, .int .i64 x.co] 72)) := (Below.refl _ _).alloc (Nat.le_refl _) _
  have hbx := block_cells (heap_alloc_new w (.cells #[.int .i8 x.kind, .int .i64 x.kids, .int .i64 x.n, .string x.s, .string x.t, .string x.u, .int .i64 x.ln, .int .i64 x.co] 72))
  have p0 : (w.alloc (.cells #[.int .i8 x.kind, .int .i64 x.kids, .int .i64 x.n, .string x.s, .string x.t, .string x.u, .int .i64 x.ln, .int .i64 x.co] 72)).cell? ⟨w.heap.size, 0, none⟩ = some (.int .i8 x.kind) := hbx.1 0
  have p3 : (w.alloc (.cells #[.int .i8 x.kind, .int .i64 x.kids, .int .i64 x.n, .string x.s, .string x.t, .string x.u, .int .i64 x.ln, .int .i64 x.co] 72)).cell? ⟨w.heap.size, 3, none⟩ = some (.string x.s) := hbx.1 3
  have hwi : w.heap.size < (w.alloc (.cells #[.int .i8 x.kind, .int .i64 x.kids, .int .i64 x.n, .string x.s, .string x.t, .string x.u, .int .i64 x.ln, .int .i64 x.co] 72)).heap.size := by simp
  clear hbx
  subst hL0
  have HE : Aside (In.within x [] = [] ++ [nm x]) := by show _ = _; unfold In.within; rw [if_pos (by omega)]
  replace p0 := p0.trans (congrArg (fun z => some (Value.int .i8 z)) hk)
  clear hk
  go_enter Tryz.func63, Tryz.ntmps63
  go_upto_region 1 with fail
  have HBw : Aside (Below w.heap.size w (w.alloc (.cells #[.int .i8 x.kind, .int .i64 x.kids, .int .i64 x.n, .string x.s, .string x.t, .string x.u, .int .i64 x.ln, .int .i64 x.co] 72))) := hBw
  generalize w.alloc (.cells #[.int .i8 x.kind, .int .i64 x.kids, .int .i64 x.n, .string x.s, .string x.t, .string x.u, .int .i64 x.ln, .int .i64 x.co] 72) = W0 at *
  obtain ⟨cb, hcb⟩ : ∃ cb, cb = w.heap.size := ⟨_, rfl⟩
  rw [← hcb] at p0 p3 hwi ⊢
  clear hcb hBw
  have HN := cells_list_new W0 [.string x.s] 9
  have HB1 : Aside (Below w.heap.size w (W0.alloc (.cells #[.string x.s] 9))) := balloc HBw.out _
  go_wp2_with (at_builtin; go_must (refine wpList_append_grows _ rfl _ _ 23 rfl 9 i0 _ 1 16 tyIn hi hz0 hz1 hz2 rfl (by decide) none 0 0 [] rfl (fun _ => ⟨rfl, rfl⟩) (by simp [tcells_len]) (fun q hq => by cases hq) ⟨W0.heap.size, 0, none⟩ 1 1 [.string x.s] rfl rfl HN (fun u hu => by simp at hu; subst hu; rfl) (by omega) (by unfold maxLen; omega) (by omega) ?_); intro v2 w2 hown2 hg2)
  go_ret
  rw [HE.out]
  obtain ⟨a1, a2⟩ := ar_end (L := []) (M := [nm x]) hown2 (by unfold tcells; simp [nm_S]) (by simp) (by simp) HB1.out hg2
  exact ⟨v2, rfl, a1, a2⟩

set_option maxHeartbeats 8000000 in
theorem within_s6 (x : Nd) (hs : x.s.size ≤ maxLen) (L : List (List UInt8)) (hL : L.length ≤ 100000) (w : World) (hk : x.kind = 6) (b o c : Nat) (hc : L.length ≤ c) (hb : b < w.heap.size) (hty : ∃ cur, w.heap[b]? = some (.cells cur 9 (0, 0))) (hcell : ∀ j p, L[j]? = some p → w.cell? ⟨b, o + j, none⟩ = some (.string (S p))) :
    Calls Tryz.prog 63 #[.agg #[.int .i8 x.kind, .int .i64 x.kids, .int .i64 x.n, .string x.s, .string x.t, .string x.u, .int .i64 x.ln, .int .i64 x.co], .slice (some ⟨b, o, none⟩) L.length c] w fun e w' => ∃ v', e = .returned v' ∧ IsAr w' v' (In.within x L) ∧ Below w.heap.size w w' := by
  obtain ⟨i0, hi, hz0, hz1, hz2⟩ := info_parts infIn
  have hBw : Below w.heap.size w (w.alloc (.cells #[.int .i8 x.kind, .int .i64 x.kids, .int .i64 x.n, .string x.s, .string x.t, .string x.u, .int .i64 x.ln, .int .i64 x.co] 72)) := (Below.refl _ _).alloc (Nat.le_refl _) _
  have hbx := block_cells (heap_alloc_new w (.cells #[.int .i8 x.kind, .int .i64 x.kids, .int .i64 x.n, .string x.s, .string x.t, .string x.u, .int .i64 x.ln, .int .i64 x.co] 72))
  have p0 : (w.alloc (.cells #[.int .i8 x.kind, .int .i64 x.kids, .int .i64 x.n, .string x.s, .string x.t, .string x.u, .int .i64 x.ln, .int .i64 x.co] 72)).cell? ⟨w.heap.size, 0, none⟩ = some (.int .i8 x.kind) := hbx.1 0
  have p3 : (w.alloc (.cells #[.int .i8 x.kind, .int .i64 x.kids, .int .i64 x.n, .string x.s, .string x.t, .string x.u, .int .i64 x.ln, .int .i64 x.co] 72)).cell? ⟨w.heap.size, 3, none⟩ = some (.string x.s) := hbx.1 3
  have hwi : w.heap.size < (w.alloc (.cells #[.int .i8 x.kind, .int .i64 x.kids, .int .i64 x.n, .string x.s, .string x.t, .string x.u, .int .i64 x.ln, .int .i64 x.co] 72)).heap.size := by simp
  clear hbx
  have HO0 : ∀ j p, L[j]? = some p → (w.alloc (.cells #[.int .i8 x.kind, .int .i64 x.kids, .int .i64 x.n, .string x.s, .string x.t, .string x.u, .int .i64 x.ln, .int .i64 x.co] 72)).cell? ⟨b, o + j, none⟩ = some (.string (S p)) := fun j p hp => (hBw.cell (p := ⟨b, o + j, none⟩) hb).trans (hcell j p hp)
  have hb0 := Nat.lt_of_lt_of_le hb hBw.size
  have hty0 : ∃ cur, (w.alloc (.cells #[.int .i8 x.kind, .int .i64 x.kids, .int .i64 x.n, .string x.s, .string x.t, .string x.u, .int .i64 x.ln, .int .i64 x.co] 72)).heap[b]? = some (.cells cur 9 (0, 0)) := by obtain ⟨cur, e⟩ := hty; exact ⟨cur, (hBw.block b hb).trans e⟩
  clear hty
  have hc' : (L.length : Int) ≤ (c : Int) := by omega
  clear hcell
  have HE : Aside (In.within x L = L ++ [(Tr.cut32 (nm x)).1, (Tr.cut32 (nm x)).2.1]) := by show _ = _; unfold In.within; rw [if_neg (by omega), if_pos hk]
  have hcut := fun W => cut_any x.s hs W
  replace p0 := p0.trans (congrArg (fun z => some (Value.int .i8 z)) hk)
  clear hk
  go_enter Tryz.func63, Tryz.ntmps63
  go_upto_region 1 with fail
  have HBw : Aside (Below w.heap.size w (w.alloc (.cells #[.int .i8 x.kind, .int .i64 x.kids, .int .i64 x.n, .string x.s, .string x.t, .string x.u, .int .i64 x.ln, .int .i64 x.co] 72))) := hBw
  generalize w.alloc (.cells #[.int .i8 x.kind, .int .i64 x.kids, .int .i64 x.n, .string x.s, .string x.t, .string x.u, .int .i64 x.ln, .int .i64 x.co] 72) = W0 at *
  obtain ⟨cb, hcb⟩ : ∃ cb, cb = w.heap.size := ⟨_, rfl⟩
  rw [← hcb] at p0 p3 hwi ⊢
  clear hcb hBw
  go_wp2_with fail
  go_at_call 120
  refine (hcut _).mono ?_
  rintro e w1 ⟨rfl, hB1⟩
  have HO : ∀ sa sb : Value, ∀ j u, (tcells L)[j]? = some u → (w1.alloc (.cells #[sa, sb] 9)).cell? ((⟨b, o, none⟩ : Addr).add j) = some u := fun sa sb => ar_olds fun j p hp => ((balloc hB1 _ : Below W0.heap.size W0 _).cell (p := ⟨b, o + j, none⟩) hb0).trans (HO0 j p hp)
  clear HO0
  have HB1 : Aside (Below w.heap.size w w1) := bt HBw.out hB1
  clear hcut
  obtain ⟨n1, hn1⟩ : ∃ n1, n1 = (Tr.cut32 (nm x)).1 := ⟨_, rfl⟩
  obtain ⟨n2, hn2⟩ : ∃ n2, n2 = (Tr.cut32 (nm x)).2.1 := ⟨_, rfl⟩
  rw [show x.s.data.toList = nm x from rfl, ← hn1, ← hn2]
  rw [← hn1, ← hn2] at HE
  clear hn1 hn2
  have HN := cells_list_new w1 [.string (S n1), .string (S n2)] 9
  go_wp2_with (at_builtin; go_must (refine wpList_append_grows _ rfl _ _ 23 rfl 9 i0 _ 1 16 tyIn hi hz0 hz1 hz2 rfl (by decide) (some ⟨b, o, none⟩) L.length L.length (tcells L) rfl (fun h => by cases h) (by simp [tcells_len]) (fun q hq => by cases hq; exact HO _ _) ⟨w1.heap.size, 0, none⟩ 2 2 [.string (S n1), .string (S n2)] rfl rfl HN (fun u hu => by simp at hu; rcases hu with rfl | rfl <;> rfl) (by omega) (by unfold maxLen; omega) (by omega) ?_); intro v2 w2 hown2 hg2)
  go_ret
  rw [HE.out]
  obtain ⟨a1, a2⟩ := ar_end (L := L) (M := [n1, n2]) hown2 (by unfold tcells; simp) (by simp) (by simp) (balloc HB1.out _) hg2
  exact ⟨v2, rfl, a1, a2⟩

set_option maxHeartbeats 8000000 in
theorem within_n6 (x : Nd) (hs : x.s.size ≤ maxLen) (L : List (List UInt8)) (hL : L.length ≤ 100000) (w : World) (hk : x.kind = 6) (hL0 : L = []) :
    Calls Tryz.prog 63 #[.agg #[.int .i8 x.kind, .int .i64 x.kids, .int .i64 x.n, .string x.s, .string x.t, .string x.u, .int .i64 x.ln, .int .i64 x.co], .slice none 0 0] w fun e w' => ∃ v', e = .returned v' ∧ IsAr w' v' (In.within x L) ∧ Below w.heap.size w w' := by
  obtain ⟨i0, hi, hz0, hz1, hz2⟩ := info_parts infIn
  have hBw : Below w.heap.size w (w.alloc (.cells #[.int .i8 x.kind, .int .i64 x.kids, .int .i64 x.n, .string x.s, .string x.t, .string x.u, .int .i64 x.ln, .int .i64 x.co] 72)) := (Below.refl _ _).alloc (Nat.le_refl _) _
  have hbx := block_cells (heap_alloc_new w (.cells #[.int .i8 x.kind, .int .i64 x.kids, .int .i64 x.n, .string x.s, .string x.t, .string x.u, .int .i64 x.ln, .int .i64 x.co] 72))
  have p0 : (w.alloc (.cells #[.int .i8 x.kind, .int .i64 x.kids, .int .i64 x.n, .string x.s, .string x.t, .string x.u, .int .i64 x.ln, .int .i64 x.co] 72)).cell? ⟨w.heap.size, 0, none⟩ = some (.int .i8 x.kind) := hbx.1 0
  have p3 : (w.alloc (.cells #[.int .i8 x.kind, .int .i64 x.kids, .int .i64 x.n, .string x.s, .string x.t, .string x.u, .int .i64 x.ln, .int .i64 x.co] 72)).cell? ⟨w.heap.size, 3, none⟩ = some (.string x.s) := hbx.1 3
  have hwi : w.heap.size < (w.alloc (.cells #[.int .i8 x.kind, .int .i64 x.kids, .int .i64 x.n, .string x.s, .string x.t, .string x.u, .int .i64 x.ln, .int .i64 x.co] 72)).heap.size := by simp
  clear hbx
  subst hL0
  have HE : Aside (In.within x [] = [] ++ [(Tr.cut32 (nm x)).1, (Tr.cut32 (nm x)).2.1]) := by show _ = _; unfold In.within; rw [if_neg (by omega), if_pos hk]
  have hcut := fun W => cut_any x.s hs W
  replace p0 := p0.trans (congrArg (fun z => some (Value.int .i8 z)) hk)
  clear hk
  go_enter Tryz.func63, Tryz.ntmps63
  go_upto_region 1 with fail
  have HBw : Aside (Below w.heap.size w (w.alloc (.cells #[.int .i8 x.kind, .int .i64 x.kids, .int .i64 x.n, .string x.s, .string x.t, .string x.u, .int .i64 x.ln, .int .i64 x.co] 72))) := hBw
  generalize w.alloc (.cells #[.int .i8 x.kind, .int .i64 x.kids, .int .i64 x.n, .string x.s, .string x.t, .string x.u, .int .i64 x.ln, .int .i64 x.co] 72) = W0 at *
  obtain ⟨cb, hcb⟩ : ∃ cb, cb = w.heap.size := ⟨_, rfl⟩
  rw [← hcb] at p0 p3 hwi ⊢
  clear hcb hBw
  go_wp2_with fail
  go_at_call 120
  refine (hcut _).mono ?_
  rintro e w1 ⟨rfl, hB1⟩
  have HB1 : Aside (Below w.heap.size w w1) := bt HBw.out hB1
  clear hcut
  obtain ⟨n1, hn1⟩ : ∃ n1, n1 = (Tr.cut32 (nm x)).1 := ⟨_, rfl⟩
  obtain ⟨n2, hn2⟩ : ∃ n2, n2 = (Tr.cut32 (nm x)).2.1 := ⟨_, rfl⟩
  rw [show x.s.data.toList = nm x from rfl, ← hn1, ← hn2]
  rw [← hn1, ← hn2] at HE
  clear hn1 hn2
  have HN := cells_list_new w1 [.string (S n1), .string (S n2)] 9
  go_wp2_with (at_builtin; go_must (refine wpList_append_grows _ rfl _ _ 23 rfl 9 i0 _ 1 16 tyIn hi hz0 hz1 hz2 rfl (by decide) none 0 0 [] rfl (fun _ => ⟨rfl, rfl⟩) (by simp [tcells_len]) (fun q hq => by cases hq) ⟨w1.heap.size, 0, none⟩ 2 2 [.string (S n1), .string (S n2)] rfl rfl HN (fun u hu => by simp at hu; rcases hu with rfl | rfl <;> rfl) (by omega) (by unfold maxLen; omega) (by omega) ?_); intro v2 w2 hown2 hg2)
  go_ret
  rw [HE.out]
  obtain ⟨a1, a2⟩ := ar_end (L := []) (M := [n1, n2]) hown2 (by unfold tcells; simp) (by simp) (by simp) (balloc HB1.out _) hg2
  exact ⟨v2, rfl, a1, a2⟩

set_option maxHeartbeats 8000000 in
theorem within_s0 (x : Nd) (hs : x.s.size ≤ maxLen) (L : List (List UInt8)) (hL : L.length ≤ 100000) (w : World) (h5 : x.kind ≠ 5) (h6 : x.kind ≠ 6) (h8 : x.kind ≠ 8) (b o c : Nat) (hc : L.length ≤ c) (hb : b < w.heap.size) (hty : ∃ cur, w.heap[b]? = some (.cells cur 9 (0, 0))) (hcell : ∀ j p, L[j]? = some p → w.cell? ⟨b, o + j, none⟩ = some (.string (S p))) :
    Calls Tryz.prog 63 #[.agg #[.int .i8 x.kind, .int .i64 x.kids, .int .i64 x.n, .string x.s, .string x.t, .string x.u, .int .i64 x.ln, .int .i64 x.co], .slice (some ⟨b, o, none⟩) L.length c] w fun e w' => ∃ v', e = .returned v' ∧ IsAr w' v' (In.within x L) ∧ Below w.heap.size w w' := by
  obtain ⟨i0, hi, hz0, hz1, hz2⟩ := info_parts infIn
  have hBw : Below w.heap.size w (w.alloc (.cells #[.int .i8 x.kind, .int .i64 x.kids, .int .i64 x.n, .string x.s, .string x.t, .string x.u, .int .i64 x.ln, .int .i64 x.co] 72)) := (Below.refl _ _).alloc (Nat.le_refl _) _
  have hbx := block_cells (heap_alloc_new w (.cells #[.int .i8 x.kind, .int .i64 x.kids, .int .i64 x.n, .string x.s, .string x.t, .string x.u, .int .i64 x.ln, .int .i64 x.co] 72))
  have p0 : (w.alloc (.cells #[.int .i8 x.kind, .int .i64 x.kids, .int .i64 x.n, .string x.s, .string x.t, .string x.u, .int .i64 x.ln, .int .i64 x.co] 72)).cell? ⟨w.heap.size, 0, none⟩ = some (.int .i8 x.kind) := hbx.1 0
  have p3 : (w.alloc (.cells #[.int .i8 x.kind, .int .i64 x.kids, .int .i64 x.n, .string x.s, .string x.t, .string x.u, .int .i64 x.ln, .int .i64 x.co] 72)).cell? ⟨w.heap.size, 3, none⟩ = some (.string x.s) := hbx.1 3
  have hwi : w.heap.size < (w.alloc (.cells #[.int .i8 x.kind, .int .i64 x.kids, .int .i64 x.n, .string x.s, .string x.t, .string x.u, .int .i64 x.ln, .int .i64 x.co] 72)).heap.size := by simp
  clear hbx
  have HO0 : ∀ j p, L[j]? = some p → (w.alloc (.cells #[.int .i8 x.kind, .int .i64 x.kids, .int .i64 x.n, .string x.s, .string x.t, .string x.u, .int .i64 x.ln, .int .i64 x.co] 72)).cell? ⟨b, o + j, none⟩ = some (.string (S p)) := fun j p hp => (hBw.cell (p := ⟨b, o + j, none⟩) hb).trans (hcell j p hp)
  have hb0 := Nat.lt_of_lt_of_le hb hBw.size
  have hty0 : ∃ cur, (w.alloc (.cells #[.int .i8 x.kind, .int .i64 x.kids, .int .i64 x.n, .string x.s, .string x.t, .string x.u, .int .i64 x.ln, .int .i64 x.co] 72)).heap[b]? = some (.cells cur 9 (0, 0)) := by obtain ⟨cur, e⟩ := hty; exact ⟨cur, (hBw.block b hb).trans e⟩
  clear hty
  have hc' : (L.length : Int) ≤ (c : Int) := by omega
  clear hcell
  have HE : Aside (In.within x L = L) := by show _ = _; unfold In.within; rw [if_neg (by omega), if_neg h6]
  have e5 : (x.kind == 5) = false := by simpa using h5
  have e6 : (x.kind == 6) = false := by simpa using h6
  have e8 : (x.kind == 8) = false := by simpa using h8
  go_enter Tryz.func63, Tryz.ntmps63
  go_upto_region 1 with fail
  have HBw : Aside (Below w.heap.size w (w.alloc (.cells #[.int .i8 x.kind, .int .i64 x.kids, .int .i64 x.n, .string x.s, .string x.t, .string x.u, .int .i64 x.ln, .int .i64 x.co] 72))) := hBw
  generalize w.alloc (.cells #[.int .i8 x.kind, .int .i64 x.kids, .int .i64 x.n, .string x.s, .string x.t, .string x.u, .int .i64 x.ln, .int .i64 x.co] 72) = W0 at *
  obtain ⟨cb, hcb⟩ : ∃ cb, cb = w.heap.size := ⟨_, rfl⟩
  rw [← hcb] at p0 p3 hwi ⊢
  clear hcb hBw
  go_wp2_with fail
  go_ret
  rw [HE.out]
  exact ⟨_, rfl, .inr ⟨b, o, c, rfl, hc, hty0, HO0⟩, HBw.out⟩

set_option maxHeartbeats 8000000 in
theorem within_n0 (x : Nd) (hs : x.s.size ≤ maxLen) (L : List (List UInt8)) (hL : L.length ≤ 100000) (w : World) (h5 : x.kind ≠ 5) (h6 : x.kind ≠ 6) (h8 : x.kind ≠ 8) (hL0 : L = []) :
    Calls Tryz.prog 63 #[.agg #[.int .i8 x.kind, .int .i64 x.kids, .int .i64 x.n, .string x.s, .string x.t, .string x.u, .int .i64 x.ln, .int .i64 x.co], .slice none 0 0] w fun e w' => ∃ v', e = .returned v' ∧ IsAr w' v' (In.within x L) ∧ Below w.heap.size w w' := by
  obtain ⟨i0, hi, hz0, hz1, hz2⟩ := info_parts infIn
  have hBw : Below w.heap.size w (w.alloc (.cells #[.int .i8 x.kind, .int .i64 x.kids, .int .i64 x.n, .string x.s, .string x.t, .string x.u, .int .i64 x.ln, .int .i64 x.co] 72)) := (Below.refl _ _).alloc (Nat.le_refl _) _
  have hbx := block_cells (heap_alloc_new w (.cells #[.int .i8 x.kind, .int .i64 x.kids, .int .i64 x.n, .string x.s, .string x.t, .string x.u, .int .i64 x.ln, .int .i64 x.co] 72))
  have p0 : (w.alloc (.cells #[.int .i8 x.kind, .int .i64 x.kids, .int .i64 x.n, .string x.s, .string x.t, .string x.u, .int .i64 x.ln, .int .i64 x.co] 72)).cell? ⟨w.heap.size, 0, none⟩ = some (.int .i8 x.kind) := hbx.1 0
  have p3 : (w.alloc (.cells #[.int .i8 x.kind, .int .i64 x.kids, .int .i64 x.n, .string x.s, .string x.t, .string x.u, .int .i64 x.ln, .int .i64 x.co] 72)).cell? ⟨w.heap.size, 3, none⟩ = some (.string x.s) := hbx.1 3
  have hwi : w.heap.size < (w.alloc (.cells #[.int .i8 x.kind, .int .i64 x.kids, .int .i64 x.n, .string x.s, .string x.t, .string x.u, .int .i64 x.ln, .int .i64 x.co] 72)).heap.size := by simp
  clear hbx
  subst hL0
  have HE : Aside (In.within x [] = []) := by show _ = _; unfold In.within; rw [if_neg (by omega), if_neg h6]
  have e5 : (x.kind == 5) = false := by simpa using h5
  have e6 : (x.kind == 6) = false := by simpa using h6
  have e8 : (x.kind == 8) = false := by simpa using h8
  go_enter Tryz.func63, Tryz.ntmps63
  go_upto_region 1 with fail
  have HBw : Aside (Below w.heap.size w (w.alloc (.cells #[.int .i8 x.kind, .int .i64 x.kids, .int .i64 x.n, .string x.s, .string x.t, .string x.u, .int .i64 x.ln, .int .i64 x.co] 72))) := hBw
  generalize w.alloc (.cells #[.int .i8 x.kind, .int .i64 x.kids, .int .i64 x.n, .string x.s, .string x.t, .string x.u, .int .i64 x.ln, .int .i64 x.co] 72) = W0 at *
  obtain ⟨cb, hcb⟩ : ∃ cb, cb = w.heap.size := ⟨_, rfl⟩
  rw [← hcb] at p0 p3 hwi ⊢
  clear hcb hBw
  go_wp2_with fail
  go_ret
  rw [HE.out]
  exact ⟨_, rfl, .inl ⟨rfl, rfl⟩, HBw.out⟩

theorem within_any (x : Nd) (hs : x.s.size ≤ maxLen) (L : List (List UInt8)) (hL : L.length ≤ 100000) (v : Value) (w : World) (hv : IsAr w v L) :
    Calls Tryz.prog 63 #[.agg #[.int .i8 x.kind, .int .i64 x.kids, .int .i64 x.n, .string x.s, .string x.t, .string x.u, .int .i64 x.ln, .int .i64 x.co], v] w fun e w' => ∃ v', e = .returned v' ∧ IsAr w' v' (In.within x L) ∧ Below w.heap.size w w' := by
  rcases hv with ⟨h0, rfl⟩ | ⟨b, o, c, rfl, h1, h2, h3⟩
  · by_cases k5 : x.kind = 5
    · exact within_n5 x hs L hL w k5 h0
    by_cases k8 : x.kind = 8
    · exact within_n8 x hs L hL w k8 h0
    by_cases k6 : x.kind = 6
    · exact within_n6 x hs L hL w k6 h0
    exact within_n0 x hs L hL w k5 k6 k8 h0
  · by_cases k5 : x.kind = 5
    · exact within_s5 x hs L hL w k5 b o c h1 (ar_lt h2) h2 h3
    by_cases k8 : x.kind = 8
    · exact within_s8 x hs L hL w k8 b o c h1 (ar_lt h2) h2 h3
    by_cases k6 : x.kind = 6
    · exact within_s6 x hs L hL w k6 b o c h1 (ar_lt h2) h2 h3
    exact within_s0 x hs L hL w k5 k6 k8 b o c h1 (ar_lt h2) h2 h3
end Go.Proofs.YthdlfeejeboboaaGreatDoor
