/- The document's Pieces, kind by kind: what is fixed. The document's Pieces, kind by kind: leaves and what has annotations. The document's Part and Kid: the text of a part. The document's Part of a node that is no If; the document's Pieces of any node. The document's Part of an If; of any tree. -/
import Derived.Test.YtpikfdkgblghhaaGreatDoorXbc
import Derived.Test.YtpikfdkgblghhaaGreatDoorXav
import Derived.Test.YtpikfdkgblghhaaGreatDoorXbb
import Derived.Test.YtpikfdkgblghhaaGreatDoorXao
import Derived.BigQuiet
import Derived.Test.YtpikfdkgblghhaaGreatDoorXbe
namespace Go.Proofs.YtpikfdkgblghhaaGreatDoor
open Go.RowKit Pn
set_option maxRecDepth 100000
set_option linter.unusedSimpArgs false
set_option linter.unusedVariables false

set_option maxHeartbeats 4000000 in
theorem refPieces_ops (x : Tr.Nd) (h : x.kind = 4 ∨ x.kind = 28 ∨ x.kind = 14 ∨ x.kind = 15 ∨ x.kind = 10 ∨ x.kind = 11 ∨ x.kind = 13 ∨ x.kind = 12) (w : World) : Calls Tryz.prog 61 #[Tr.agg x] w (PcEnd x w) := by
  have HA : Aside (pcA Lib.itoa x = pcA Lib.itoa ⟨x.kind, x.kids, x.n, x.s, x.t, x.u, x.ln, x.co⟩) := rfl
  obtain ⟨kind, kids, n, s, t, u, ln, co⟩ := x
  simp only at h
  simp only [Tr.agg]
  rcases h with rfl | rfl | rfl | rfl | rfl | rfl | rfl | rfl
  all_goals
    go_enter Tryz.func61, Tryz.ntmps61
    go_wp2_with fail
    go_ret3
    exact pc_end rfl (by simp [pcA]; rfl) (by simp [pcB]; rfl) (by simp [pcC]; rfl) ((Below.refl _ _).alloc (Nat.le_refl _) _)

set_option maxHeartbeats 4000000 in
theorem refPieces_brs (x : Tr.Nd) (h : x.kind = 16 ∨ x.kind = 27 ∨ x.kind = 7 ∨ x.kind = 18 ∨ x.kind = 21) (w : World) : Calls Tryz.prog 61 #[Tr.agg x] w (PcEnd x w) := by
  have HA : Aside (pcA Lib.itoa x = pcA Lib.itoa ⟨x.kind, x.kids, x.n, x.s, x.t, x.u, x.ln, x.co⟩) := rfl
  obtain ⟨kind, kids, n, s, t, u, ln, co⟩ := x
  simp only at h
  simp only [Tr.agg]
  rcases h with rfl | rfl | rfl | rfl | rfl
  all_goals
    go_enter Tryz.func61, Tryz.ntmps61
    go_wp2_with fail
    go_ret3
    exact pc_end rfl (by simp [pcA]; rfl) (by simp [pcB]; rfl) (by simp [pcC]; rfl) ((Below.refl _ _).alloc (Nat.le_refl _) _)

set_option maxHeartbeats 4000000 in
theorem refPieces_wds (x : Tr.Nd) (h : x.kind = 26 ∨ x.kind = 17 ∨ x.kind = 19 ∨ x.kind = 20 ∨ x.kind = 22 ∨ x.kind = 23 ∨ x.kind = 24 ∨ x.kind = 25) (w : World) : Calls Tryz.prog 61 #[Tr.agg x] w (PcEnd x w) := by
  have HA : Aside (pcA Lib.itoa x = pcA Lib.itoa ⟨x.kind, x.kids, x.n, x.s, x.t, x.u, x.ln, x.co⟩) := rfl
  obtain ⟨kind, kids, n, s, t, u, ln, co⟩ := x
  simp only at h
  simp only [Tr.agg]
  rcases h with rfl | rfl | rfl | rfl | rfl | rfl | rfl | rfl
  all_goals
    go_enter Tryz.func61, Tryz.ntmps61
    go_wp2_with fail
    go_ret3
    exact pc_end rfl (by simp [pcA]; rfl) (by simp [pcB]; rfl) (by simp [pcC]; rfl) ((Below.refl _ _).alloc (Nat.le_refl _) _)
end Go.Proofs.YtpikfdkgblghhaaGreatDoor
namespace Go.Proofs.YtpikfdkgblghhaaGreatDoor
open Go.RowKit Pn
set_option maxRecDepth 100000
set_option linter.unusedSimpArgs false
set_option linter.unusedVariables false

set_option maxHeartbeats 4000000 in
theorem refPieces_truth (x : Tr.Nd) (h : x.kind = 3) (w : World) : Calls Tryz.prog 61 #[Tr.agg x] w (PcEnd x w) := by
  obtain ⟨kind, kids, n, s, t, u, ln, co⟩ := x
  simp only at h
  subst h
  simp only [Tr.agg]
  by_cases h1 : n = 1
  · subst h1
    go_enter Tryz.func61, Tryz.ntmps61
    go_wp2_with fail
    go_ret3
    exact pc_end rfl (by simp [pcA]; rfl) (by simp [pcB]; rfl) (by simp [pcC]; rfl) ((Below.refl _ _).alloc (Nat.le_refl _) _)
  · have h1' : (n == 1) = false := by simpa using h1
    go_enter Tryz.func61, Tryz.ntmps61
    go_wp2_with fail
    go_ret3
    exact pc_end rfl (by simp [pcA, h1]; rfl) (by simp [pcB]; rfl) (by simp [pcC]; rfl) ((Below.refl _ _).alloc (Nat.le_refl _) _)

set_option maxHeartbeats 4000000 in
theorem refPieces_num (x : Tr.Nd) (h : x.kind = 1) (h0 : 0 ≤ x.n) (h1 : x.n ≤ 9223372036854775807) (w : World) : Calls Tryz.prog 61 #[Tr.agg x] w (PcEnd x w) := by
  have hd := fun W => pnDecimal_any x.n h0 h1 W
  obtain ⟨kind, kids, n, s, t, u, ln, co⟩ := x
  simp only at h h0 h1 hd
  subst h
  simp only [Tr.agg]
  have HP : Aside (S (Lib.itoa n) = S (pcA Lib.itoa ⟨1, kids, n, s, t, u, ln, co⟩)) := by show _ = _; simp [pcA]
  generalize S (Lib.itoa n) = q at *
  go_enter Tryz.func61, Tryz.ntmps61
  go_wp2_with (go_at_call 111; refine (hd _).mono ?_; rintro e w1 ⟨rfl, hB1⟩)
  go_ret3
  exact pc_end rfl HP.out (by simp [pcB]; rfl) (by simp [pcC]; rfl) (((Below.refl _ _).alloc (Nat.le_refl _) _).trans (hB1.mono (by simp)))

set_option maxHeartbeats 4000000 in
theorem refPieces_str (x : Tr.Nd) (h : x.kind = 2) (hm : Tr.mayB x = true) (hs : x.s.size ≤ maxLen) (w : World) : Calls Tryz.prog 61 #[Tr.agg x] w (PcEnd x w) := by
  obtain ⟨_, _, hsB, _, _⟩ := may_parts hm
  have hd := fun W => refQuote_any x.s hs W
  obtain ⟨kind, kids, n, s, t, u, ln, co⟩ := x
  simp only at h hs hd hsB
  subst h
  simp only [Tr.agg]
  obtain ⟨q, hq⟩ : ∃ q, Tx.quoted s.data.toList = some q := by
    unfold Tr.sB Tr.nm at hsB
    simpa [Option.isSome_iff_exists] using hsB
  have HP : Aside (S q = S (pcA Lib.itoa ⟨2, kids, n, s, t, u, ln, co⟩)) := by show _ = _; simp [pcA, hq]
  have hd' : ∀ W, Calls Tryz.prog 107 #[.string s] W fun e w' => e = .returned (.tuple #[.string (S q), .int .i64 0]) ∧ w' = W := fun W => (hd W).mono fun e w' ⟨he, hB⟩ => by
    rw [hq] at he
    exact ⟨he, hB⟩
  clear hd hq hsB hm
  go_enter Tryz.func61, Tryz.ntmps61
  go_wp2_with (go_at_call 107; refine (hd' _).mono ?_; rintro e w' ⟨rfl, hw'⟩; replace hw' := hw'.symm; subst hw')
  go_ret3
  exact pc_end rfl HP.out (by simp [pcB]; rfl) (by simp [pcC]; rfl) ((Below.refl _ _).alloc (Nat.le_refl _) _)

set_option maxHeartbeats 4000000 in
theorem refPieces_as (x : Tr.Nd) (h : x.kind = 29) (hm : Tr.mayB x = true) (w : World) : Calls Tryz.prog 61 #[Tr.agg x] w (PcEnd x w) := by
  have htB : noteB x.t.data.toList = true := by
    obtain ⟨_, _, _, ht, _⟩ := may_parts hm
    unfold Tr.tB at ht
    rw [if_neg (by simp; omega), if_pos (by simp [h])] at ht
    unfold noteB; rw [ht]; simp
  have hnl := note_len htB
  have hns : (S (note x.t.data.toList)).size ≤ 643 := by rw [S_size]; exact hnl
  have hd := refNote_any x.t htB
  have HP : Aside (S (note x.t.data.toList) ++ S [41] = S (pcC x)) := by show _ = _; rw [S_add]; simp [pcC, h]
  obtain ⟨kind, kids, n, s, t, u, ln, co⟩ := x
  simp only at h hd hns HP
  subst h
  simp only [Tr.agg]
  generalize S (note t.data.toList) = nt at *
  clear htB hnl hm
  go_enter Tryz.func61, Tryz.ntmps61
  go_wp2_with (go_at_call 36; refine (hd _).mono ?_; rintro e w' ⟨rfl, m, rfl⟩)
  go_ret3
  exact pc_end rfl (by simp [pcA]; rfl) (by simp [pcB]; rfl) HP.out (((Below.refl _ _).alloc (Nat.le_refl _) _).trans (below_drewN (Below.refl _ _) _))

set_option maxHeartbeats 4000000 in
theorem refPieces_fn (x : Tr.Nd) (h : x.kind = 5) (hm : Tr.mayB x = true) (w : World) : Calls Tryz.prog 61 #[Tr.agg x] w (PcEnd x w) := by
  obtain ⟨hnt, hnu⟩ := may_notes hm (.inl h)
  have hnm : x.s.size ≤ 32 := by
    obtain ⟨_, _, hs, _, _⟩ := may_parts hm
    unfold Tr.sB Tr.nm at hs
    rw [if_neg (by simp [h]), if_pos (by simp [h])] at hs
    rw [S_of x.s, S_size]
    exact name_len hs
  have hst : (S (note x.t.data.toList)).size ≤ 643 := by rw [S_size]; exact note_len hnt
  have hsu : (S (note x.u.data.toList)).size ≤ 643 := by rw [S_size]; exact note_len hnu
  have hdt := refNote_any x.t hnt
  have hdu := refNote_any x.u hnu
  have HP : Aside (S [102, 110, 32, 40] ++ x.s ++ S (note x.t.data.toList) ++ S [41] ++ S (note x.u.data.toList) ++ S [32, 61, 62, 32] = S (pcA Lib.itoa x)) := by
    show _ = _
    rw [S_of x.s, S_add, S_add, S_add, S_add, S_add]
    simp [pcA, h, S_list]
  obtain ⟨kind, kids, n, s, t, u, ln, co⟩ := x
  simp only at h hdt hdu hst hsu HP hnm
  subst h
  simp only [Tr.agg]
  generalize S (note t.data.toList) = nt at *
  generalize S (note u.data.toList) = nu at *
  clear hnt hnu hm
  have hne : ∀ W, Calls Tryz.prog 36 #[.string t] W fun e w' => e = .returned (.string nt) ∧ ∃ m, w' = W.drewN m := hdt
  go_enter Tryz.func61, Tryz.ntmps61
  go_wp2_with fail
  go_quiet ((go_at_call 36; first | with_reducible exact Calls.quiet_of (hdt _) | with_reducible exact Calls.quiet_of (hdu _)))
  go_wp2_with fail
  go_ret3
  exact pc_end rfl HP.out (by simp [pcB]; rfl) (by simp [pcC]; rfl) (((Below.refl _ _).alloc (Nat.le_refl _) _).trans (below_drewN (Below.refl _ _) _))

set_option maxHeartbeats 4000000 in
theorem refPieces_let (x : Tr.Nd) (h : x.kind = 8) (hm : Tr.mayB x = true) (w : World) : Calls Tryz.prog 61 #[Tr.agg x] w (PcEnd x w) := by
  have hnt : noteB x.t.data.toList = true := by
    obtain ⟨_, _, _, ht, _⟩ := may_parts hm
    unfold Tr.tB at ht
    rw [if_pos (by simp [h])] at ht
    exact ht
  have hnm : x.s.size ≤ 32 := by
    obtain ⟨_, _, hs, _, _⟩ := may_parts hm
    unfold Tr.sB Tr.nm at hs
    rw [if_neg (by simp [h]), if_pos (by simp [h])] at hs
    rw [S_of x.s, S_size]
    exact name_len hs
  have hst : (S (note x.t.data.toList)).size ≤ 643 := by rw [S_size]; exact note_len hnt
  have hdt := refNote_any x.t hnt
  have HP : Aside (S [108, 101, 116, 32] ++ x.s ++ S (note x.t.data.toList) ++ S [32, 61, 32] = S (pcA Lib.itoa x)) := by
    show _ = _
    rw [S_of x.s, S_add, S_add, S_add]
    simp [pcA, h, S_list]
  obtain ⟨kind, kids, n, s, t, u, ln, co⟩ := x
  simp only at h hdt hst HP hnm
  subst h
  simp only [Tr.agg]
  generalize S (note t.data.toList) = nt at *
  clear hnt hm
  go_enter Tryz.func61, Tryz.ntmps61
  go_wp2_with fail
  go_quiet ((go_at_call 36; exact Calls.quiet_of (hdt _)))
  go_wp2_with fail
  go_ret3
  exact pc_end rfl HP.out (by simp [pcB]; rfl) (by simp [pcC]; rfl) (((Below.refl _ _).alloc (Nat.le_refl _) _).trans (below_drewN (Below.refl _ _) _))

set_option maxHeartbeats 4000000 in
theorem refPieces_rec (x : Tr.Nd) (h : x.kind = 6) (hm : Tr.mayB x = true) (hs : x.s.size ≤ maxLen) (w : World) : Calls Tryz.prog 61 #[Tr.agg x] w (PcEnd x w) := by
  obtain ⟨hnt, hnu⟩ := may_notes hm (.inr h)
  have hnm : (Tr.cut32 x.s.data.toList).1.length ≤ 32 ∧ (Tr.cut32 x.s.data.toList).2.1.length ≤ 32 ∧ (Tr.cut32 x.s.data.toList).2.2 = true := by
    obtain ⟨_, _, hs, _, _⟩ := may_parts hm
    unfold Tr.sB Tr.nm at hs
    rw [if_neg (by simp [h]), if_neg (by simp [h]), if_pos (by simp [h])] at hs
    simp only [Bool.and_eq_true] at hs
    refine ⟨name_len hs.1, name_len hs.2, ?_⟩
    by_cases hb : Lib.indexByte x.s.data.toList 32 = -1
    · exfalso
      have h2 := hs.2
      rw [Tr.cut32_none hb, nameB_len (by simp)] at h2
      cases h2
    · obtain ⟨o, ho⟩ : ∃ o : Nat, Lib.indexByte x.s.data.toList 32 = o := ⟨(Lib.indexByte x.s.data.toList 32).toNat, by have := Lib.indexByte_ge x.s.data.toList 32; omega⟩
      rw [(Tr.cut32_some ho).2]
  have hst : (S (note x.t.data.toList)).size ≤ 643 := by rw [S_size]; exact note_len hnt
  have hsu : (S (note x.u.data.toList)).size ≤ 643 := by rw [S_size]; exact note_len hnu
  have hdt := refNote_any x.t hnt
  have hdu := refNote_any x.u hnu
  have hcu := pnNames_any x.s hs hnm.2.2
  have hbx := fun W hB => box_cells w W x hB
  have hso : (S (Tr.cut32 x.s.data.toList).1).size ≤ 32 := by rw [S_size]; exact hnm.1
  have hsp : (S (Tr.cut32 x.s.data.toList).2.1).size ≤ 32 := by rw [S_size]; exact hnm.2.1
  have HP : Aside (S [114, 101, 99, 32] ++ S (Tr.cut32 x.s.data.toList).1 ++ S [32, 40] ++ S (Tr.cut32 x.s.data.toList).2.1 ++ S (note x.t.data.toList) ++ S [41] ++ S (note x.u.data.toList) ++ S [32, 61, 62, 32] = S (pcA Lib.itoa x)) := by
    show _ = _
    rw [S_add, S_add, S_add, S_add, S_add, S_add, S_add]
    simp [pcA, h]
  have hsz : (w.alloc (.cells (Tr.ncells x).toArray 52)).heap.size = w.heap.size + 1 := by simp
  have HBa : Aside (Below w.heap.size w (w.alloc (.cells (Tr.ncells x).toArray 52))) := (Below.refl _ _).alloc (Nat.le_refl _) _
  obtain ⟨kind, kids, n, s, t, u, ln, co⟩ := x
  simp only at h hdt hdu hst hsu HP hso hsp hcu
  subst h
  simp only [Tr.agg]
  simp only [Tr.ncells] at hbx hsz HBa
  generalize S (note t.data.toList) = nt at *
  generalize S (note u.data.toList) = nu at *
  generalize S (Tr.cut32 s.data.toList).1 = so at *
  generalize S (Tr.cut32 s.data.toList).2.1 = sp at *
  clear hnt hnu hm hnm hs
  go_enter Tryz.func61, Tryz.ntmps61
  go_wp2_with fail
  refine (hcu _).mono ?_
  rintro e w2 ⟨rfl, hB2⟩
  have HB2 : Aside (Below w.heap.size w w2) := HBa.out.trans (hB2.mono (by rw [hsz]; omega))
  rw [hsz] at hB2
  have q4 := hbx w2 hB2 4
  have q5 := hbx w2 hB2 5
  simp only [List.getElem?_cons_zero, List.getElem?_cons_succ] at q4 q5
  clear hbx hsz hB2 HBa
  go_wp2_with fail
  go_quiet ((go_at_call 36; first | with_reducible exact Calls.quiet_of (hdt _) | with_reducible exact Calls.quiet_of (hdu _)))
  go_wp2_with fail
  go_ret3
  exact pc_end rfl HP.out (by simp [pcB]; rfl) (by simp [pcC]; rfl) (HB2.out.trans (below_drewN (Below.refl _ _) _))
end Go.Proofs.YtpikfdkgblghhaaGreatDoor
namespace Go.Proofs.YtpikfdkgblghhaaGreatDoor
open Go.RowKit Pn
set_option maxRecDepth 100000
set_option linter.unusedSimpArgs false
set_option linter.unusedVariables false
namespace Pn
/-- The document's Part at one tree, wherever it lies; its Kid. -/
def PartR (t : Tr.T) : Prop := ∀ (l : List Tr.Nd) (p : Nat) (rest : List Tr.Nd) (v : Value) (w : World), IsNodes w v l → l.length ≤ 4096 → l.drop p = Tr.flat t ++ rest →
  Calls Tryz.prog 29 #[v, .int .i64 (p : Int)] w fun e w' => e = .returned (.string (S (pr Lib.itoa t))) ∧ Below w.heap.size w w'
def KidR (t : Tr.T) : Prop := ∀ (l : List Tr.Nd) (p : Nat) (rest : List Tr.Nd) (v : Value) (a : Int) (w : World), IsNodes w v l → l.length ≤ 4096 → l.drop p = Tr.flat t ++ rest →
  Calls Tryz.prog 60 #[v, .int .i64 (p : Int), .int .i64 a] w fun e w' => e = .returned (.string (S (txt a t))) ∧ Below w.heap.size w w'
theorem at_root {l rest : List Tr.Nd} {p : Nat} {x : Tr.Nd} {ks : List Tr.T} (h : l.drop p = Tr.flat (.nd x ks) ++ rest) : l[p]? = some x ∧ p < l.length := by
  have h1 : l[p]? = some x := by have := Tr.at_drop (q := 0) h; simpa [Tr.flat] using this
  exact ⟨h1, (List.getElem?_eq_some_iff.1 h1).1⟩
/-- Where the kids of a part lie. -/
theorem kid_place {l rest : List Tr.Nd} {p : Nat} {x : Tr.Nd} {ks : List Tr.T} (hw : Tr.wf (.nd x ks)) (h : l.drop p = Tr.flat (.nd x ks) ++ rest) :
    (kidsN l (p : Int)).length = ks.length ∧ ∀ k t, ks[k]? = some t → (kidsN l (p : Int))[k]? = some (p + 1 + (Tr.flats (ks.take k)).length) ∧ ∃ rest', l.drop (p + 1 + (Tr.flats (ks.take k)).length) = Tr.flat t ++ rest' := by
  have hb := Tr.bh_tree h hw
  have hp := Tr.flat_pos (.nd x ks)
  have hne : bhI l (p : Int) ≠ 0 := by
    unfold bhI
    rw [if_neg (by omega), Int.toNat_natCast, hb]
    omega
  obtain ⟨y, n, hy, hyn, hkN, _⟩ := part_facts hne
  rw [(at_root h).1] at hy
  cases hy
  rw [Tr.wf] at hw
  have hn : n = ks.length := by have := hw.1; omega
  subst hn
  refine ⟨by rw [hkN]; simp, fun k t hk => ?_⟩
  obtain ⟨hkl, hkt⟩ := List.getElem?_eq_some_iff.1 hk
  have hka := Tr.kidAt_tree hw.2 h k (by omega)
  refine ⟨by rw [hkN, ← hka]; simp [hkl], ?_⟩
  have hd : l.drop (p + 1) = Tr.flats ks ++ rest := by rw [← List.drop_drop, h, Tr.flat, List.cons_append, List.drop_succ_cons, List.drop_zero]
  have hs : Tr.flats ks = Tr.flats (ks.take k) ++ (Tr.flat t ++ Tr.flats (ks.drop (k + 1))) := by
    have h2 : ks.drop k = t :: ks.drop (k + 1) := by rw [← hkt]; exact List.drop_eq_getElem_cons hkl
    have h3 : Tr.flats ks = Tr.flats (ks.take k) ++ Tr.flats (ks.drop k) := by rw [← Tr.flats_append, List.take_append_drop]
    rw [h3, h2, Tr.flats]
  refine ⟨Tr.flats (ks.drop (k + 1)) ++ rest, ?_⟩
  rw [← List.drop_drop, hd, hs, List.append_assoc, List.drop_left' rfl, List.append_assoc]
end Pn

set_option maxHeartbeats 2000000 in
theorem refKid_of (t : Tr.T) (hg : GoodT t) (h : PartR t) : KidR t := by
  intro l p rest v a w hl hlen hd
  obtain ⟨x, ks⟩ := t
  obtain ⟨hx, hpl⟩ := at_root hd
  have htl := pr_len Lib.itoa (.nd x ks) (fun y hy => nice_len (hg.2 y hy))
  have hfl : (Tr.flat (.nd x ks)).length ≤ 4096 := by
    have := congrArg List.length hd
    rw [List.length_drop, List.length_append] at this
    omega
  have hP := h l p rest v w hl hlen hd
  obtain ⟨va, vc, rfl⟩ := hl.form
  obtain ⟨b, o, rfl, hcp, hb, hcells⟩ := hl.at hx
  have p0 := hcells 0 _ rfl
  rw [Nat.add_zero] at p0
  have hk0 : (0 : Int) ≤ (p : Int) := by omega
  have hkl : (p : Int) < (l.length : Int) := by omega
  have hsz : (S (pr Lib.itoa (.nd x ks))).size ≤ 10000000 := by rw [S_size]; omega
  have hrk := refRank_any x.kind
  have HA : Aside (¬ rk x.kind < a → S (pr Lib.itoa (.nd x ks)) = S (txt a (.nd x ks))) := by
    show _ → _
    intro hdd
    show _ = S (br (decide (rk x.kind < a)) _)
    rw [show decide (rk x.kind < a) = false by simpa using hdd]; rfl
  have HB : Aside (rk x.kind < a → S [40] ++ S (pr Lib.itoa (.nd x ks)) ++ S [41] = S (txt a (.nd x ks))) := by
    show _ → _
    intro hdd
    show _ = S (br (decide (rk x.kind < a)) _)
    rw [show decide (rk x.kind < a) = true by simpa using hdd, S_add, S_add]
    simp [br]
  clear hcells hx hd hl h htl hfl hg
  generalize S (txt a (.nd x ks)) = FF at *
  generalize S (pr Lib.itoa (.nd x ks)) = P at *
  generalize x.kind = kd at *
  by_cases hdd : rk kd < a
  · have HB' : Aside (S [40] ++ P ++ S [41] = FF) := HB.out hdd
    clear HA HB
    generalize rk kd = r at *
    go_enter Tryz.func60, Tryz.ntmps60
    go_wp2_with (first | (go_at_call 110; refine (hrk _).mono ?_; rintro e w' ⟨rfl, hw'⟩; replace hw' := hw'.symm; subst hw') | (go_at_call 29; refine hP.mono ?_; rintro e w1 ⟨rfl, hB1⟩))
    go_ret
    exact ⟨by rw [← HB'.out]; rfl, hB1⟩
  · have HA' : Aside (P = FF) := HA.out hdd
    have hdd' : decide (rk kd < a) = false := by simpa using hdd
    clear HA HB
    generalize rk kd = r at *
    go_enter Tryz.func60, Tryz.ntmps60
    go_wp2_with (first | (go_at_call 110; refine (hrk _).mono ?_; rintro e w' ⟨rfl, hw'⟩; replace hw' := hw'.symm; subst hw') | (go_at_call 29; refine hP.mono ?_; rintro e w1 ⟨rfl, hB1⟩))
    go_ret
    exact ⟨by rw [← HA'.out]; rfl, hB1⟩
end Go.Proofs.YtpikfdkgblghhaaGreatDoor
namespace Go.Proofs.YtpikfdkgblghhaaGreatDoor
open Go.RowKit Pn
set_option maxRecDepth 100000
set_option linter.unusedSimpArgs false
set_option linter.unusedVariables false

theorem refPieces_any (x : Tr.Nd) (hx9 : x.kind ≠ 9) (h : Nice x) (w : World) : Calls Tryz.prog 61 #[Tr.agg x] w (PcEnd x w) := by
  have hf := (may_parts h.1).1
  have hr : 1 ≤ x.kind ∧ x.kind ≤ 29 := by
    unfold Tr.fitB at hf
    by_cases h21 : x.kind = 21
    · omega
    · rw [if_neg (by simpa using h21)] at hf
      split at hf
      · cases hf
      · rename_i h30
        simp only [Bool.and_eq_true] at hf
        have h1 := hf.1
        unfold Tr.arF at h1
        simp at h1 h30
        omega
  have hc : x.kind = 1 ∨ x.kind = 2 ∨ x.kind = 3 ∨ x.kind = 5 ∨ x.kind = 6 ∨ x.kind = 8 ∨ x.kind = 29 ∨ (x.kind = 4 ∨ x.kind = 28 ∨ x.kind = 14 ∨ x.kind = 15 ∨ x.kind = 10 ∨ x.kind = 11 ∨ x.kind = 13 ∨ x.kind = 12) ∨ (x.kind = 16 ∨ x.kind = 27 ∨ x.kind = 7 ∨ x.kind = 18 ∨ x.kind = 21) ∨ (x.kind = 26 ∨ x.kind = 17 ∨ x.kind = 19 ∨ x.kind = 20 ∨ x.kind = 22 ∨ x.kind = 23 ∨ x.kind = 24 ∨ x.kind = 25) := by omega
  rcases hc with k | k | k | k | k | k | k | k | k | k
  · have hn := (may_parts h.1).2.1
    unfold Tr.nB at hn
    rw [if_pos (by simp [k])] at hn
    exact refPieces_num x k (by simpa using hn) h.2.1.2 w
  · exact refPieces_str x k h.1 h.2.2 w
  · exact refPieces_truth x k w
  · exact refPieces_fn x k h.1 w
  · exact refPieces_rec x k h.1 h.2.2 w
  · exact refPieces_let x k h.1 w
  · exact refPieces_as x k h.1 w
  · exact refPieces_ops x k w
  · exact refPieces_brs x k w
  · exact refPieces_wds x k w
namespace Pn
theorem pcB_one {k : Int} (h9 : k ≠ 9) {j : Nat} (hj : 1 ≤ j) : pcB k j = pcB k 1 := by unfold pcB; simp [h9]
theorem drop_one {α : Type} {l : List α} {k : Nat} {x : α} (h : l[k]? = some x) : l.drop k = x :: l.drop (k + 1) := by
  obtain ⟨hk, rfl⟩ := List.getElem?_eq_some_iff.1 h
  exact List.drop_eq_getElem_cons hk
theorem cell_own {W : World} {base n : Nat} {v : Value} {xs : List Value} (h : W.ownsRow base 3 1 v n xs) (hn : 0 < n) : ∃ g cap, v = .slice (some ⟨g, 0, none⟩) n cap ∧ n ≤ cap ∧ g < W.heap.size ∧ ∀ j, j < n → W.cell? ⟨g, j, none⟩ = xs[j]? := by
  obtain ⟨g, cap, e1, e2, e3, e4⟩ := own_cells h hn
  refine ⟨g, cap, e1, e2, ?_, fun j hj => e4 j (by omega)⟩
  subst e1
  exact (h.lt g rfl).2
end Pn

set_option maxHeartbeats 8000000 in
theorem refPart_o (x : Tr.Nd) (ks : List Tr.T) (hx9 : x.kind ≠ 9) (hg : GoodT (.nd x ks)) (hk : ∀ t ∈ ks, KidR t) : PartR (.nd x ks) := by
  intro l p rest v w hl hlen hd
  obtain ⟨hx, hpl⟩ := at_root hd
  obtain ⟨hkn, hkp⟩ := kid_place hg.1 hd
  have htl := pr_len Lib.itoa (.nd x ks) (fun y hy => nice_len (hg.2 y hy))
  have hfl : (Tr.flat (.nd x ks)).length ≤ 4096 := by
    have := congrArg List.length hd
    rw [List.length_drop, List.length_append] at this
    omega
  have hpc := refPieces_any x hx9 (good_nice hg).1
  obtain ⟨va, vc, rfl⟩ := hl.form
  obtain ⟨b, o, rfl, hcp, hb, hcells⟩ := hl.at hx
  have p0 := hcells 0 _ rfl
  have p1 := hcells 1 _ rfl
  have p2 := hcells 2 _ rfl
  have p3 := hcells 3 _ rfl
  have p4 := hcells 4 _ rfl
  have p5 := hcells 5 _ rfl
  have p6 := hcells 6 _ rfl
  have p7 := hcells 7 _ rfl
  rw [Nat.add_zero] at p0
  have hp0 : (0 : Int) ≤ (p : Int) := by omega
  have hpl' : (p : Int) < (l.length : Int) := by omega
  have hki := fun W hB => refKids_any l (by omega) (.slice (some ⟨b, o, none⟩) l.length vc) (p : Int) W (hl.below hB)
  rw [hkn] at hki
  have HPC : Aside (pr Lib.itoa (.nd x ks) = pcA Lib.itoa x ++ (prs Lib.itoa x.kind 0 (ks.drop 0) ++ pcC x)) := by show _ = _; rw [pr_nd, List.append_assoc]; rfl
  have HLP : Aside ((pr Lib.itoa (.nd x ks)).length ≤ 10000000) := by show _ ≤ _; omega
  have hHK : Aside (∀ k t, ks[k]? = some t → (icells (kidsN l (p : Int)))[k]? = some (.int .i64 ((p + 1 + (Tr.flats (ks.take k)).length : Nat) : Int)) ∧ ∀ (a : Int) W, Below w.heap.size w W → Calls Tryz.prog 60 #[.slice (some ⟨b, o, none⟩) l.length vc, .int .i64 ((p + 1 + (Tr.flats (ks.take k)).length : Nat) : Int), .int .i64 a] W fun e w' => e = .returned (.string (S (txt a t))) ∧ Below W.heap.size W w') := by
    show ∀ k t, _
    intro k t hkt
    obtain ⟨h1, rest', h2⟩ := hkp k t hkt
    refine ⟨by unfold icells; rw [List.getElem?_map, h1]; rfl, fun a W hB => ?_⟩
    exact hk t (List.mem_of_getElem? hkt) l _ rest' _ a W (hl.below hB) hlen h2
  have hbx := fun W hB => box_cells w W x hB
  have hsz0 : (w.alloc (.cells (Tr.ncells x).toArray 52)).heap.size = w.heap.size + 1 := by simp
  have hB1 : Below w.heap.size w (w.alloc (.cells (Tr.ncells x).toArray 52)) := (Below.refl _ _).alloc (Nat.le_refl _) _
  have hk9 : (x.kind == 9) = false := by simpa using hx9
  have hln : ks.length ≤ 5000 := by
    have : ∀ q : List Tr.T, q.length ≤ (Tr.flats q).length := by
      intro q
      induction q with
      | nil => simp
      | cons a r ih => have := Tr.flat_pos a; simp [Tr.flats]; omega
    have h2 := this ks
    simp [Tr.flat] at hfl
    omega
  have HB9 : Aside (∀ j : Nat, 1 ≤ j → pcB x.kind j = pcB x.kind 1) := fun j hj => pcB_one hx9 hj
  have hBl := pcB_len x.kind 1
  have hCl := pcC_len (good_nice hg).1.1
  have hAl := pcA_len (good_nice hg).1.1 (nice_len (good_nice hg).1).2
  have hask := refAsked_any x.kind
  have HTL : Aside (∀ t ∈ ks, ∀ a, (txt a t).length ≤ 10000000) := by
    show ∀ t ∈ ks, _
    intro t ht a
    have hgs := (good_nice hg).2.2
    have key : ∀ q : List Tr.T, t ∈ q → GoodTs q → GoodT t ∧ (Tr.flat t).length ≤ (Tr.flats q).length := by
      intro q
      induction q with
      | nil => intro h; cases h
      | cons a r ih =>
        intro h hgq
        rcases List.mem_cons.1 h with rfl | h
        · exact ⟨hgq.cons.1, by simp [Tr.flats]⟩
        · obtain ⟨h1, h2⟩ := ih h hgq.cons.2
          exact ⟨h1, by simp [Tr.flats]; omega⟩
    obtain ⟨h1, h2⟩ := key ks ht hgs
    have := txt_len (a := a) h1
    have h3 : (Tr.flat (.nd x ks)).length = (Tr.flats ks).length + 1 := by simp [Tr.flat]
    omega
  have hmix : Tryz.prog.follows .mixedOrders = true := by kernel_rfl
  clear hcells hx hd hkp hkn htl hfl hg hx9 hk hl
  generalize pr Lib.itoa (.nd x ks) = P at *
  generalize hPB : pcB x.kind 1 = PB at *
  generalize hPC : pcC x = PC at *
  generalize hPA : pcA Lib.itoa x = PA at *
  have hsB : (S PB).size ≤ 6 := by rw [S_size]; exact hBl
  have hsC : (S PC).size ≤ 700 := by rw [S_size]; exact hCl
  have hpc' : ∀ W, Calls Tryz.prog 61 #[Tr.agg x] W fun e w' => e = .returned (.tuple #[.string (S PA), .string (S PB), .string (S PC)]) ∧ Below W.heap.size W w' := fun W => (hpc W).mono fun e w' h => by
    unfold PcEnd at h
    rw [hPA, hPB, hPC] at h
    exact h
  clear hpc hPB hPC hPA
  obtain ⟨kind, kids, n, s, t, u, ln, co⟩ := x
  simp only at hk9 hask HPC HB9
  simp only [Tr.agg] at hpc'
  simp only [Tr.ncells] at p0 p1 p2 p3 p4 p5 p6 p7 hbx hsz0 hB1
  have HLn : Aside (l.length ≤ 4096) := hlen
  generalize l.length = ll at *
  go_enter Tryz.func29, Tryz.ntmps29
  go_wp2_with fail
  refine (hki _ hB1).mono ?_
  rintro e w2 ⟨r, rfl, hown, hB2⟩
  have HB2 : Aside (Below w.heap.size w w2) := hB1.trans (hB2.mono hB1.size)
  rw [hsz0] at hB2 hown
  have hb2 := hbx w2 hB2
  have q0 := hb2 0
  have q1 := hb2 1
  have q2 := hb2 2
  have q3 := hb2 3
  have q4 := hb2 4
  have q5 := hb2 5
  have q6 := hb2 6
  have q7 := hb2 7
  simp only [List.getElem?_cons_zero, List.getElem?_cons_succ] at q0 q1 q2 q3 q4 q5 q6 q7
  have hnb : w.heap.size < w2.heap.size := by have := hB2.size; omega
  clear hki hb2 p0 p1 p2 p3 p4 p5 p6 p7 hbx hsz0 hB1 hB2 hb
  obtain ⟨ra, rc, rfl⟩ := own_len hown
  go_wp2_with fail
  refine (hpc' _).mono ?_
  rintro e w3 ⟨rfl, hB3⟩
  have q03 : w3.cell? ⟨w.heap.size, 0, none⟩ = some (.int .i8 kind) := (hB3.cell (p := ⟨w.heap.size, 0, none⟩) hnb).trans q0
  have HQ : Aside (∀ W, Below w2.heap.size w2 W → W.cell? ⟨w.heap.size, 0, none⟩ = some (.int .i8 kind)) := fun W hW => (hW.cell (p := ⟨w.heap.size, 0, none⟩) hnb).trans q0
  have HOwn : Aside (∀ k : Nat, k < ks.length → ∃ g, ra = some ⟨g, 0, none⟩ ∧ ks.length ≤ rc ∧ ∀ W, Below w2.heap.size w2 W → W.cell? ⟨g, k, none⟩ = (icells (kidsN l (p : Int)))[k]?) := by
    show ∀ k : Nat, _
    intro k hk
    obtain ⟨g, cap, e1, e2, e3, e4⟩ := cell_own hown (by omega)
    simp at e1
    exact ⟨g, e1.1, by omega, fun W hW => (hW.cell (p := ⟨g, k, none⟩) e3).trans (e4 k hk)⟩
  clear q0 q1 q2 q3 q4 q5 q6 q7 hnb hown hpc'
  go_wp2_with fail
  go_loopg [10, 11] ks.length (fun gk sv kv wr => ∃ (k : Nat) (M : List UInt8), k + gk = ks.length ∧ sv = .string (S M) ∧ kv = .int .i64 (k : Int) ∧ Below w2.heap.size w2 wr ∧ Aside (P = M ++ (prs Lib.itoa kind k (ks.drop k) ++ PC)))
  case atStart => exact ⟨0, PA, by omega, rfl, rfl, hB3, HPC⟩
  case round =>
    obtain ⟨k, M, hkg, rfl, rfl, hB, HP⟩ := hrel
    have hML : M.length ≤ 10000000 := by
      have h1 := HLP.out
      rw [HP.out, List.length_append] at h1
      omega
    have hsM : (S M).size ≤ 10000000 := by rw [S_size]; exact hML
    have hk0 : (0 : Int) ≤ (k : Int) := by omega
    by_cases hkl : k < ks.length
    · have hkl' : (k : Int) < (ks.length : Int) := by omega
      obtain ⟨t1, ht1⟩ : ∃ t1, ks[k]? = some t1 := ⟨ks[k], List.getElem?_eq_getElem hkl⟩
      obtain ⟨hc1, hkd⟩ := hHK.out k t1 ht1
      obtain ⟨g, rfl, hrc, hgc⟩ := HOwn.out k hkl
      rw [hc1] at hgc
      have hD := drop_one ht1
      have htx := HTL.out t1 (List.mem_of_getElem? ht1) (askd kind k)
      have hsT : (S (txt (askd kind k) t1)).size ≤ 10000000 := by rw [S_size]; exact htx
      have ask' : ∀ W, Below wr.heap.size wr W → Calls Tryz.prog 62 #[.int .i8 kind, .int .i64 (k : Int)] W fun e w' => e = .returned (.int .i64 (askd kind k)) ∧ Below wr.heap.size wr w' := fun W hW => by
        refine (hask k (by omega) W).mono ?_
        rintro e w' ⟨rfl, hw'⟩
        replace hw' := hw'.symm
        subst hw'
        exact ⟨rfl, hW⟩
      have kid' : ∀ W, Below wr.heap.size wr W → Calls Tryz.prog 60 #[.slice (some ⟨b, o, none⟩) ll vc, .int .i64 ((p + 1 + (Tr.flats (ks.take k)).length : Nat) : Int), .int .i64 (askd kind k)] W fun e w' => e = .returned (.string (S (txt (askd kind k) t1))) ∧ Below wr.heap.size wr w' := fun W hW => by
        refine (hkd (askd kind k) W (HB2.out.trans ((hB.trans (hW.mono hB.size)).mono HB2.out.size))).mono ?_
        rintro e w' ⟨rfl, h⟩
        exact ⟨rfl, hW.trans (h.mono hW.size)⟩
      have HN : Aside (P = M ++ (if k = 0 then [] else PB) ++ txt (askd kind k) t1 ++ (prs Lib.itoa kind (k + 1) (ks.drop (k + 1)) ++ PC)) := by
        show _ = _
        rw [HP.out, hD, prs_cons]
        by_cases hz : k = 0
        · simp [hz]
        · have := HB9.out k (by omega)
          simp [hz, this]
      have HBr : Aside (Below w2.heap.size w2 wr) := hB
      have HQr : Aside (∀ W, Below wr.heap.size wr W → W.cell? ⟨w.heap.size, 0, none⟩ = some (.int .i8 kind) ∧ W.cell? ⟨g, k, none⟩ = some (.int .i64 ((p + 1 + (Tr.flats (ks.take k)).length : Nat) : Int))) := fun W hW => ⟨HQ.out W (HBr.out.trans (hW.mono HBr.out.size)), hgc W (HBr.out.trans (hW.mono HBr.out.size))⟩
      clear hkd hgc hc1 htx hD ht1 HP hB q03 hB3 hML
      generalize ((p + 1 + (Tr.flats (ks.take k)).length : Nat) : Int) = qq at *
      generalize askd kind k = ak at *
      by_cases hz : k = 0
      · have HN' : Aside (P = M ++ txt ak t1 ++ (prs Lib.itoa kind (k + 1) (ks.drop (k + 1)) ++ PC)) := by show _ = _; rw [HN.out, if_pos hz, List.append_nil]
        have HA : Aside (S M ++ S (txt ak t1) = S (M ++ txt ak t1)) := S_add _ _
        have hkz : ¬ 0 < k := by omega
        clear HN hz
        generalize txt ak t1 = tx at *
        generalize M ++ tx = M2 at *
        generalize S tx = stx at *
        generalize S M = sm at *
        go_wp2_with fail
        have hne9 : Nonempty (Cls (fun W => Below wr.heap.size wr W)) := ⟨⟨wr, Below.refl _ _⟩⟩
        have z0 : ∀ z : Cls (fun W => Below wr.heap.size wr W), z.w.cell? ⟨w.heap.size, 0, none⟩ = some (.int .i8 kind) := fun z => (HQr.out z.w z.h).1
        have z1 : ∀ z : Cls (fun W => Below wr.heap.size wr W), z.w.cell? ⟨g, k, none⟩ = some (.int .i64 qq) := fun z => (HQr.out z.w z.h).2
        refine wp_region_calm (fun W => Below wr.heap.size wr W) hmix (by kernel_rfl) (Below.refl _ _).drew ?_
        repeat (go_big_quiet_step (first | (go_at_call 62; with_reducible exact calls_calm (ask' _ (Cls.h _))) | (go_at_call 60; with_reducible exact calls_calm (kid' _ (Cls.h _)))))
        refine wpQuiet_nil ?_
        rintro _ ⟨y, rfl⟩
        have hB4 := y.h
        generalize y.w = w4 at *
        clear z0 z1 hne9 ask' kid'
        go_wp2_with fail
        go_roundg (gk - 1)
        case measure => omega
        case rel => exact ⟨k + 1, M2, by omega, by rw [← HA.out], by go_num, HBr.out.trans (hB4.mono HBr.out.size), HN'⟩
      · have HN' : Aside (P = M ++ PB ++ txt ak t1 ++ (prs Lib.itoa kind (k + 1) (ks.drop (k + 1)) ++ PC)) := by show _ = _; rw [HN.out, if_neg hz]
        have HA : Aside (S M ++ S PB ++ S (txt ak t1) = S (M ++ PB ++ txt ak t1)) := by show _ = _; rw [S_add, S_add]
        have hkz : 0 < k := by omega
        have hsMB : (S M ++ S PB).size ≤ 10000006 := by rw [S_add, S_size, List.length_append]; rw [S_size] at hsM hsB; omega
        clear HN hz
        generalize txt ak t1 = tx at *
        generalize M ++ PB ++ tx = M2 at *
        generalize S tx = stx at *
        generalize S M = sm at *
        generalize S PB = sb at *
        go_wp2_with fail
        have hne9 : Nonempty (Cls (fun W => Below wr.heap.size wr W)) := ⟨⟨wr, Below.refl _ _⟩⟩
        have z0 : ∀ z : Cls (fun W => Below wr.heap.size wr W), z.w.cell? ⟨w.heap.size, 0, none⟩ = some (.int .i8 kind) := fun z => (HQr.out z.w z.h).1
        have z1 : ∀ z : Cls (fun W => Below wr.heap.size wr W), z.w.cell? ⟨g, k, none⟩ = some (.int .i64 qq) := fun z => (HQr.out z.w z.h).2
        refine wp_region_calm (fun W => Below wr.heap.size wr W) hmix (by kernel_rfl) (Below.refl _ _).drew ?_
        repeat (go_big_quiet_step (first | (go_at_call 62; with_reducible exact calls_calm (ask' _ (Cls.h _))) | (go_at_call 60; with_reducible exact calls_calm (kid' _ (Cls.h _)))))
        refine wpQuiet_nil ?_
        rintro _ ⟨y, rfl⟩
        have hB4 := y.h
        generalize y.w = w4 at *
        clear z0 z1 hne9 ask' kid'
        go_wp2_with fail
        go_roundg (gk - 1)
        case measure => omega
        case rel => exact ⟨k + 1, M2, by omega, by rw [← HA.out], by go_num, HBr.out.trans (hB4.mono HBr.out.size), HN'⟩
    · obtain rfl : k = ks.length := by omega
      rw [List.drop_length, prs_nil, List.nil_append] at HP
      have HA : Aside (S M ++ S PC = S P) := by show _ = _; rw [HP.out, S_add]
      have HBr : Aside (Below w.heap.size w wr) := HB2.out.trans (hB.mono HB2.out.size)
      clear HP hB hML
      generalize S PC = sc at *
      generalize S M = sm at *
      go_wp2_with fail
      go_ret
      exact ⟨by rw [← HA.out]; rfl, HBr.out⟩
end Go.Proofs.YtpikfdkgblghhaaGreatDoor
namespace Go.Proofs.YtpikfdkgblghhaaGreatDoor
open Go.RowKit Pn
set_option maxRecDepth 100000
set_option linter.unusedSimpArgs false
set_option linter.unusedVariables false

set_option maxHeartbeats 8000000 in
theorem refPart_if (x : Tr.Nd) (ks : List Tr.T) (hx9 : x.kind = 9) (hg : GoodT (.nd x ks)) (hk : ∀ t ∈ ks, KidR t) : PartR (.nd x ks) := by
  obtain ⟨t1, t2, t3, rfl⟩ := kids_three hg (by omega) (by rw [hx9]; rfl)
  intro l p rest v w hl hlen hd
  obtain ⟨hx, hpl⟩ := at_root hd
  obtain ⟨hkn, hkp⟩ := kid_place hg.1 hd
  have htl := pr_len Lib.itoa (.nd x [t1, t2, t3]) (fun y hy => nice_len (hg.2 y hy))
  have hfl : (Tr.flat (.nd x [t1, t2, t3])).length ≤ 4096 := by
    have := congrArg List.length hd
    rw [List.length_drop, List.length_append] at this
    omega
  obtain ⟨va, vc, rfl⟩ := hl.form
  obtain ⟨b, o, rfl, hcp, hb, hcells⟩ := hl.at hx
  have p0 := hcells 0 _ rfl
  have p1 := hcells 1 _ rfl
  have p2 := hcells 2 _ rfl
  have p3 := hcells 3 _ rfl
  have p4 := hcells 4 _ rfl
  have p5 := hcells 5 _ rfl
  have p6 := hcells 6 _ rfl
  have p7 := hcells 7 _ rfl
  rw [Nat.add_zero] at p0
  have hp0 : (0 : Int) ≤ (p : Int) := by omega
  have hpl' : (p : Int) < (l.length : Int) := by omega
  have hki := fun W hB => refKids_any l (by omega) (.slice (some ⟨b, o, none⟩) l.length vc) (p : Int) W (hl.below hB)
  rw [hkn] at hki
  have HPC : Aside (S [105, 102, 32] ++ S (txt 0 t1) ++ S [32, 116, 104, 101, 110, 32] ++ S (txt 0 t2) ++ S [32, 101, 108, 115, 101, 32] ++ S (txt 0 t3) = S (pr Lib.itoa (.nd x [t1, t2, t3]))) := by
    show _ = _
    rw [S_add, S_add, S_add, S_add, S_add]
    simp [pr_nd, prs_cons, prs_nil, pcA, pcB, pcC, askd, hx9]
  have HLP : Aside ((pr Lib.itoa (.nd x [t1, t2, t3])).length ≤ 10000000) := by show _ ≤ _; omega
  have hHK : Aside (∀ k t, [t1, t2, t3][k]? = some t → (icells (kidsN l (p : Int)))[k]? = some (.int .i64 ((p + 1 + (Tr.flats ([t1, t2, t3].take k)).length : Nat) : Int)) ∧ ∀ (a : Int) W, Below w.heap.size w W → Calls Tryz.prog 60 #[.slice (some ⟨b, o, none⟩) l.length vc, .int .i64 ((p + 1 + (Tr.flats ([t1, t2, t3].take k)).length : Nat) : Int), .int .i64 a] W fun e w' => e = .returned (.string (S (txt a t))) ∧ Below W.heap.size W w') := by
    show ∀ k t, _
    intro k t hkt
    obtain ⟨h1, rest', h2⟩ := hkp k t hkt
    refine ⟨by unfold icells; rw [List.getElem?_map, h1]; rfl, fun a W hB => ?_⟩
    exact hk t (List.mem_of_getElem? hkt) l _ rest' _ a W (hl.below hB) hlen h2
  have hbx := fun W hB => box_cells w W x hB
  have hsz0 : (w.alloc (.cells (Tr.ncells x).toArray 52)).heap.size = w.heap.size + 1 := by simp
  have hB1 : Below w.heap.size w (w.alloc (.cells (Tr.ncells x).toArray 52)) := (Below.refl _ _).alloc (Nat.le_refl _) _
  have hk9 : (x.kind == 9) = true := by simpa using hx9
  have hgs := (good_nice hg).2.2
  have hl1 := txt_len (a := 0) hgs.cons.1
  have hl2 := txt_len (a := 0) hgs.cons.2.cons.1
  have hl3 := txt_len (a := 0) hgs.cons.2.cons.2.cons.1
  have hfl3 : (Tr.flat (.nd x [t1, t2, t3])).length = 1 + (Tr.flat t1).length + (Tr.flat t2).length + (Tr.flat t3).length := by simp [Tr.flat, Tr.flats]; omega
  have hs1 : (S (txt 0 t1)).size ≤ 10000000 := by rw [S_size]; omega
  have hs2 : (S (txt 0 t2)).size ≤ 10000000 := by rw [S_size]; omega
  have hs3 : (S (txt 0 t3)).size ≤ 10000000 := by rw [S_size]; omega
  have hmix : Tryz.prog.follows .mixedOrders = true := by kernel_rfl
  obtain ⟨c1, d1⟩ := hHK.out 0 t1 rfl
  obtain ⟨c2, d2⟩ := hHK.out 1 t2 rfl
  obtain ⟨c3, d3⟩ := hHK.out 2 t3 rfl
  have e1 := d1 0
  have e2 := d2 0
  have e3 := d3 0
  clear hcells hx hd hkp hkn htl hfl hg hx9 hk hl hHK d1 d2 d3 hgs hl1 hl2 hl3 hfl3 HLP
  generalize ((p + 1 + (Tr.flats ([t1, t2, t3].take 0)).length : Nat) : Int) = qa at *
  generalize ((p + 1 + (Tr.flats ([t1, t2, t3].take 1)).length : Nat) : Int) = qb at *
  generalize ((p + 1 + (Tr.flats ([t1, t2, t3].take 2)).length : Nat) : Int) = qc at *
  generalize S (pr Lib.itoa (.nd x [t1, t2, t3])) = P at *
  generalize S (txt 0 t1) = s1 at *
  generalize S (txt 0 t2) = s2 at *
  generalize S (txt 0 t3) = s3 at *
  obtain ⟨kind, kids, n, s, t, u, ln, co⟩ := x
  simp only at hk9
  simp only [Tr.ncells] at p0 p1 p2 p3 p4 p5 p6 p7 hbx hsz0 hB1
  have HLn : Aside (l.length ≤ 4096) := hlen
  generalize l.length = ll at *
  have hki' : ∀ W, Below w.heap.size w W → Calls Tryz.prog 59 #[.slice (some ⟨b, o, none⟩) ll vc, .int .i64 (p : Int)] W fun e w' => ∃ r, e = .returned r ∧ w'.ownsRow W.heap.size 3 1 r 3 (icells (kidsN l (p : Int))) ∧ Below W.heap.size W w' := hki
  clear hki
  go_enter Tryz.func29, Tryz.ntmps29
  go_wp2_with fail
  refine (hki' _ hB1).mono ?_
  rintro e w2 ⟨r, rfl, hown, hB2⟩
  have HB2 : Aside (Below w.heap.size w w2) := hB1.trans (hB2.mono hB1.size)
  rw [hsz0] at hB2 hown
  have q0 := hbx w2 hB2 0
  simp only [List.getElem?_cons_zero, List.getElem?_cons_succ] at q0
  obtain ⟨g, cap, rfl, hcap, hg2, hgc⟩ := cell_own hown (by omega)
  have r1 := (hgc 0 (by omega)).trans c1
  have r2 := (hgc 1 (by omega)).trans c2
  have r3 := (hgc 2 (by omega)).trans c3
  have HR : Aside (∀ W, Below w2.heap.size w2 W → W.cell? ⟨g, 0, none⟩ = some (.int .i64 qa) ∧ W.cell? ⟨g, 1, none⟩ = some (.int .i64 qb) ∧ W.cell? ⟨g, 2, none⟩ = some (.int .i64 qc)) := fun W hW => ⟨(hW.cell (p := ⟨g, 0, none⟩) hg2).trans r1, (hW.cell (p := ⟨g, 1, none⟩) hg2).trans r2, (hW.cell (p := ⟨g, 2, none⟩) hg2).trans r3⟩
  have kid1 : ∀ W, Below w2.heap.size w2 W → Calls Tryz.prog 60 #[.slice (some ⟨b, o, none⟩) ll vc, .int .i64 qa, .int .i64 0] W fun e w' => e = .returned (.string s1) ∧ Below w2.heap.size w2 w' := fun W hW => by
    refine (e1 W (HB2.out.trans (hW.mono HB2.out.size))).mono ?_
    rintro e w' ⟨rfl, h⟩
    exact ⟨rfl, hW.trans (h.mono hW.size)⟩
  have kid2 : ∀ W, Below w2.heap.size w2 W → Calls Tryz.prog 60 #[.slice (some ⟨b, o, none⟩) ll vc, .int .i64 qb, .int .i64 0] W fun e w' => e = .returned (.string s2) ∧ Below w2.heap.size w2 w' := fun W hW => by
    refine (e2 W (HB2.out.trans (hW.mono HB2.out.size))).mono ?_
    rintro e w' ⟨rfl, h⟩
    exact ⟨rfl, hW.trans (h.mono hW.size)⟩
  have kid3 : ∀ W, Below w2.heap.size w2 W → Calls Tryz.prog 60 #[.slice (some ⟨b, o, none⟩) ll vc, .int .i64 qc, .int .i64 0] W fun e w' => e = .returned (.string s3) ∧ Below w2.heap.size w2 w' := fun W hW => by
    refine (e3 W (HB2.out.trans (hW.mono HB2.out.size))).mono ?_
    rintro e w' ⟨rfl, h⟩
    exact ⟨rfl, hW.trans (h.mono hW.size)⟩
  clear hki' e1 e2 e3 c1 c2 c3 p0 p1 p2 p3 p4 p5 p6 p7 hbx hsz0 hB1 hB2 hb hgc r1 r2 r3 hown hg2
  go_wp2_with fail
  have hne9 : Nonempty (Cls (fun W => Below w2.heap.size w2 W)) := ⟨⟨w2, Below.refl _ _⟩⟩
  have z1 : ∀ z : Cls (fun W => Below w2.heap.size w2 W), z.w.cell? ⟨g, 0, none⟩ = some (.int .i64 qa) := fun z => (HR.out z.w z.h).1
  have z2 : ∀ z : Cls (fun W => Below w2.heap.size w2 W), z.w.cell? ⟨g, 1, none⟩ = some (.int .i64 qb) := fun z => (HR.out z.w z.h).2.1
  have z3 : ∀ z : Cls (fun W => Below w2.heap.size w2 W), z.w.cell? ⟨g, 2, none⟩ = some (.int .i64 qc) := fun z => (HR.out z.w z.h).2.2
  refine wp_region_calm (fun W => Below w2.heap.size w2 W) hmix (by kernel_rfl) (Below.refl _ _).drew ?_
  repeat (go_big_quiet_step ((go_at_call 60; first | with_reducible exact calls_calm (kid1 _ (Cls.h _)) | with_reducible exact calls_calm (kid2 _ (Cls.h _)) | with_reducible exact calls_calm (kid3 _ (Cls.h _)))))
  refine wpQuiet_nil ?_
  rintro _ ⟨y, rfl⟩
  have hB4 := y.h
  generalize y.w = w4 at *
  clear z1 z2 z3 hne9 kid1 kid2 kid3
  go_wp2_with fail
  go_ret
  exact ⟨by rw [← HPC.out]; rfl, HB2.out.trans (hB4.mono HB2.out.size)⟩

theorem refPart_any (n : Nat) : ∀ t : Tr.T, (Tr.flat t).length ≤ n → GoodT t → PartR t := by
  induction n with
  | zero => intro t h; have := Tr.flat_pos t; omega
  | succ n ih =>
    rintro ⟨x, ks⟩ h hg
    have hgs := (good_nice hg).2.2
    have hn : (Tr.flats ks).length ≤ n := by simp [Tr.flat] at h; omega
    have hk : ∀ t ∈ ks, KidR t := by
      clear hg h
      induction ks with
      | nil => intro t ht; cases ht
      | cons a r ihr =>
        intro t ht
        have hl : (Tr.flats (a :: r)).length = (Tr.flat a).length + (Tr.flats r).length := by simp [Tr.flats]
        rcases List.mem_cons.1 ht with rfl | ht
        · exact refKid_of _ hgs.cons.1 (ih _ (by omega) hgs.cons.1)
        · exact ihr hgs.cons.2 (by omega) t ht
    by_cases h9 : x.kind = 9
    · exact refPart_if x ks h9 hg hk
    · exact refPart_o x ks h9 hg hk
end Go.Proofs.YtpikfdkgblghhaaGreatDoor
