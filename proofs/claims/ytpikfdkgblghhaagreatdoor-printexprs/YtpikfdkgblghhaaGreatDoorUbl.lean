/- The document's Pieces, kind by kind: leaves and what has annotations. What the program's Modules answers. -/
import Derived.Test.YtpikfdkgblghhaaGreatDoorUbf
import Derived.Test.YtpikfdkgblghhaaGreatDoorUau
import Derived.Test.YtpikfdkgblghhaaGreatDoorUbe
import Derived.Test.YtpikfdkgblghhaaGreatDoorUao
import Derived.BigQuiet
import Derived.Test.YtpikfdkgblghhaaGreatDoorUbk
namespace Go.Proofs.YtpikfdkgblghhaaGreatDoor
open Go.RowKit Pn
set_option maxRecDepth 100000
set_option linter.unusedSimpArgs false
set_option linter.unusedVariables false

set_option maxHeartbeats 4000000 in
theorem refPieces_truth (x : Tr.Nd) (h : x.kind = 3) (w : World) : Calls Tryz.prog 61 #[Tr.agg x] w (PcEnd x w) := by
  obtain ⟨kind, kids, n, s, t, u, ln, co⟩ := x
  simp only at h
  subst h
  simp only [Tr.agg]
  by_cases h1 : n = 1
  · subst h1
    go_enter Tryz.func61, Tryz.ntmps61
    go_wp2_with fail
    go_ret3
    exact pc_end rfl (by simp [pcA]; rfl) (by simp [pcB]; rfl) (by simp [pcC]; rfl) ((Below.refl _ _).alloc (Nat.le_refl _) _)
  · have h1' : (n == 1) = false := by simpa using h1
    go_enter Tryz.func61, Tryz.ntmps61
    go_wp2_with fail
    go_ret3
    exact pc_end rfl (by simp [pcA, h1]; rfl) (by simp [pcB]; rfl) (by simp [pcC]; rfl) ((Below.refl _ _).alloc (Nat.le_refl _) _)

set_option maxHeartbeats 4000000 in
theorem refPieces_num (x : Tr.Nd) (h : x.kind = 1) (h0 : 0 ≤ x.n) (h1 : x.n ≤ 9223372036854775807) (w : World) : Calls Tryz.prog 61 #[Tr.agg x] w (PcEnd x w) := by
  have hd := fun W => pnDecimal_any x.n h0 h1 W
  obtain ⟨kind, kids, n, s, t, u, ln, co⟩ := x
  simp only at h h0 h1 hd
  subst h
  simp only [Tr.agg]
  have HP : Aside (S (Lib.itoa n) = S (pcA Lib.itoa ⟨1, kids, n, s, t, u, ln, co⟩)) := by show _ = _; simp [pcA]
  generalize S (Lib.itoa n) = q at *
  go_enter Tryz.func61, Tryz.ntmps61
  go_wp2_with (go_at_call 111; refine (hd _).mono ?_; rintro e w1 ⟨rfl, hB1⟩)
  go_ret3
  exact pc_end rfl HP.out (by simp [pcB]; rfl) (by simp [pcC]; rfl) (((Below.refl _ _).alloc (Nat.le_refl _) _).trans (hB1.mono (by simp)))

set_option maxHeartbeats 4000000 in
theorem refPieces_str (x : Tr.Nd) (h : x.kind = 2) (hm : Tr.mayB x = true) (hs : x.s.size ≤ maxLen) (w : World) : Calls Tryz.prog 61 #[Tr.agg x] w (PcEnd x w) := by
  obtain ⟨_, _, hsB, _, _⟩ := may_parts hm
  have hd := fun W => refQuote_any x.s hs W
  obtain ⟨kind, kids, n, s, t, u, ln, co⟩ := x
  simp only at h hs hd hsB
  subst h
  simp only [Tr.agg]
  obtain ⟨q, hq⟩ : ∃ q, Tx.quoted s.data.toList = some q := by
    unfold Tr.sB Tr.nm at hsB
    simpa [Option.isSome_iff_exists] using hsB
  have HP : Aside (S q = S (pcA Lib.itoa ⟨2, kids, n, s, t, u, ln, co⟩)) := by show _ = _; simp [pcA, hq]
  have hd' : ∀ W, Calls Tryz.prog 107 #[.string s] W fun e w' => e = .returned (.tuple #[.string (S q), .int .i64 0]) ∧ w' = W := fun W => (hd W).mono fun e w' ⟨he, hB⟩ => by
    rw [hq] at he
    exact ⟨he, hB⟩
  clear hd hq hsB hm
  go_enter Tryz.func61, Tryz.ntmps61
  go_wp2_with (go_at_call 107; refine (hd' _).mono ?_; rintro e w' ⟨rfl, hw'⟩; replace hw' := hw'.symm; subst hw')
  go_ret3
  exact pc_end rfl HP.out (by simp [pcB]; rfl) (by simp [pcC]; rfl) ((Below.refl _ _).alloc (Nat.le_refl _) _)

set_option maxHeartbeats 4000000 in
theorem refPieces_as (x : Tr.Nd) (h : x.kind = 29) (hm : Tr.mayB x = true) (w : World) : Calls Tryz.prog 61 #[Tr.agg x] w (PcEnd x w) := by
  have htB : noteB x.t.data.toList = true := by
    obtain ⟨_, _, _, ht, _⟩ := may_parts hm
    unfold Tr.tB at ht
    rw [if_neg (by simp; omega), if_pos (by simp [h])] at ht
    unfold noteB; rw [ht]; simp
  have hnl := note_len htB
  have hns : (S (note x.t.data.toList)).size ≤ 643 := by rw [S_size]; exact hnl
  have hd := refNote_any x.t htB
  have HP : Aside (S (note x.t.data.toList) ++ S [41] = S (pcC x)) := by show _ = _; rw [S_add]; simp [pcC, h]
  obtain ⟨kind, kids, n, s, t, u, ln, co⟩ := x
  simp only at h hd hns HP
  subst h
  simp only [Tr.agg]
  generalize S (note t.data.toList) = nt at *
  clear htB hnl hm
  go_enter Tryz.func61, Tryz.ntmps61
  go_wp2_with (go_at_call 36; refine (hd _).mono ?_; rintro e w' ⟨rfl, m, rfl⟩)
  go_ret3
  exact pc_end rfl (by simp [pcA]; rfl) (by simp [pcB]; rfl) HP.out (((Below.refl _ _).alloc (Nat.le_refl _) _).trans (below_drewN (Below.refl _ _) _))

set_option maxHeartbeats 4000000 in
theorem refPieces_fn (x : Tr.Nd) (h : x.kind = 5) (hm : Tr.mayB x = true) (w : World) : Calls Tryz.prog 61 #[Tr.agg x] w (PcEnd x w) := by
  obtain ⟨hnt, hnu⟩ := may_notes hm (.inl h)
  have hnm : x.s.size ≤ 32 := by
    obtain ⟨_, _, hs, _, _⟩ := may_parts hm
    unfold Tr.sB Tr.nm at hs
    rw [if_neg (by simp [h]), if_pos (by simp [h])] at hs
    rw [S_of x.s, S_size]
    exact name_len hs
  have hst : (S (note x.t.data.toList)).size ≤ 643 := by rw [S_size]; exact note_len hnt
  have hsu : (S (note x.u.data.toList)).size ≤ 643 := by rw [S_size]; exact note_len hnu
  have hdt := refNote_any x.t hnt
  have hdu := refNote_any x.u hnu
  have HP : Aside (S [102, 110, 32, 40] ++ x.s ++ S (note x.t.data.toList) ++ S [41] ++ S (note x.u.data.toList) ++ S [32, 61, 62, 32] = S (pcA Lib.itoa x)) := by
    show _ = _
    rw [S_of x.s, S_add, S_add, S_add, S_add, S_add]
    simp [pcA, h, S_list]
  obtain ⟨kind, kids, n, s, t, u, ln, co⟩ := x
  simp only at h hdt hdu hst hsu HP hnm
  subst h
  simp only [Tr.agg]
  generalize S (note t.data.toList) = nt at *
  generalize S (note u.data.toList) = nu at *
  clear hnt hnu hm
  have hne : ∀ W, Calls Tryz.prog 36 #[.string t] W fun e w' => e = .returned (.string nt) ∧ ∃ m, w' = W.drewN m := hdt
  go_enter Tryz.func61, Tryz.ntmps61
  go_wp2_with fail
  go_quiet ((go_at_call 36; first | with_reducible exact Calls.quiet_of (hdt _) | with_reducible exact Calls.quiet_of (hdu _)))
  go_wp2_with fail
  go_ret3
  exact pc_end rfl HP.out (by simp [pcB]; rfl) (by simp [pcC]; rfl) (((Below.refl _ _).alloc (Nat.le_refl _) _).trans (below_drewN (Below.refl _ _) _))

set_option maxHeartbeats 4000000 in
theorem refPieces_let (x : Tr.Nd) (h : x.kind = 8) (hm : Tr.mayB x = true) (w : World) : Calls Tryz.prog 61 #[Tr.agg x] w (PcEnd x w) := by
  have hnt : noteB x.t.data.toList = true := by
    obtain ⟨_, _, _, ht, _⟩ := may_parts hm
    unfold Tr.tB at ht
    rw [if_pos (by simp [h])] at ht
    exact ht
  have hnm : x.s.size ≤ 32 := by
    obtain ⟨_, _, hs, _, _⟩ := may_parts hm
    unfold Tr.sB Tr.nm at hs
    rw [if_neg (by simp [h]), if_pos (by simp [h])] at hs
    rw [S_of x.s, S_size]
    exact name_len hs
  have hst : (S (note x.t.data.toList)).size ≤ 643 := by rw [S_size]; exact note_len hnt
  have hdt := refNote_any x.t hnt
  have HP : Aside (S [108, 101, 116, 32] ++ x.s ++ S (note x.t.data.toList) ++ S [32, 61, 32] = S (pcA Lib.itoa x)) := by
    show _ = _
    rw [S_of x.s, S_add, S_add, S_add]
    simp [pcA, h, S_list]
  obtain ⟨kind, kids, n, s, t, u, ln, co⟩ := x
  simp only at h hdt hst HP hnm
  subst h
  simp only [Tr.agg]
  generalize S (note t.data.toList) = nt at *
  clear hnt hm
  go_enter Tryz.func61, Tryz.ntmps61
  go_wp2_with fail
  go_quiet ((go_at_call 36; exact Calls.quiet_of (hdt _)))
  go_wp2_with fail
  go_ret3
  exact pc_end rfl HP.out (by simp [pcB]; rfl) (by simp [pcC]; rfl) (((Below.refl _ _).alloc (Nat.le_refl _) _).trans (below_drewN (Below.refl _ _) _))

set_option maxHeartbeats 4000000 in
theorem refPieces_rec (x : Tr.Nd) (h : x.kind = 6) (hm : Tr.mayB x = true) (hs : x.s.size ≤ maxLen) (w : World) : Calls Tryz.prog 61 #[Tr.agg x] w (PcEnd x w) := by
  obtain ⟨hnt, hnu⟩ := may_notes hm (.inr h)
  have hnm : (Tr.cut32 x.s.data.toList).1.length ≤ 32 ∧ (Tr.cut32 x.s.data.toList).2.1.length ≤ 32 ∧ (Tr.cut32 x.s.data.toList).2.2 = true := by
    obtain ⟨_, _, hs, _, _⟩ := may_parts hm
    unfold Tr.sB Tr.nm at hs
    rw [if_neg (by simp [h]), if_neg (by simp [h]), if_pos (by simp [h])] at hs
    simp only [Bool.and_eq_true] at hs
    refine ⟨name_len hs.1, name_len hs.2, ?_⟩
    by_cases hb : Lib.indexByte x.s.data.toList 32 = -1
    · exfalso
      have h2 := hs.2
      rw [Tr.cut32_none hb, nameB_len (by simp)] at h2
      cases h2
    · obtain ⟨o, ho⟩ : ∃ o : Nat, Lib.indexByte x.s.data.toList 32 = o := ⟨(Lib.indexByte x.s.data.toList 32).toNat, by have := Lib.indexByte_ge x.s.data.toList 32; omega⟩
      rw [(Tr.cut32_some ho).2]
  have hst : (S (note x.t.data.toList)).size ≤ 643 := by rw [S_size]; exact note_len hnt
  have hsu : (S (note x.u.data.toList)).size ≤ 643 := by rw [S_size]; exact note_len hnu
  have hdt := refNote_any x.t hnt
  have hdu := refNote_any x.u hnu
  have hcu := pnNames_any x.s hs hnm.2.2
  have hbx := fun W hB => box_cells w W x hB
  have hso : (S (Tr.cut32 x.s.data.toList).1).size ≤ 32 := by rw [S_size]; exact hnm.1
  have hsp : (S (Tr.cut32 x.s.data.toList).2.1).size ≤ 32 := by rw [S_size]; exact hnm.2.1
  have HP : Aside (S [114, 101, 99, 32] ++ S (Tr.cut32 x.s.data.toList).1 ++ S [32, 40] ++ S (Tr.cut32 x.s.data.toList).2.1 ++ S (note x.t.data.toList) ++ S [41] ++ S (note x.u.data.toList) ++ S [32, 61, 62, 32] = S (pcA Lib.itoa x)) := by
    show _ = _
    rw [S_add, S_add, S_add, S_add, S_add, S_add, S_add]
    simp [pcA, h]
  have hsz : (w.alloc (.cells (Tr.ncells x).toArray 52)).heap.size = w.heap.size + 1 := by simp
  have HBa : Aside (Below w.heap.size w (w.alloc (.cells (Tr.ncells x).toArray 52))) := (Below.refl _ _).alloc (Nat.le_refl _) _
  obtain ⟨kind, kids, n, s, t, u, ln, co⟩ := x
  simp only at h hdt hdu hst hsu HP hso hsp hcu
  subst h
  simp only [Tr.agg]
  simp only [Tr.ncells] at hbx hsz HBa
  generalize S (note t.data.toList) = nt at *
  generalize S (note u.data.toList) = nu at *
  generalize S (Tr.cut32 s.data.toList).1 = so at *
  generalize S (Tr.cut32 s.data.toList).2.1 = sp at *
  clear hnt hnu hm hnm hs
  go_enter Tryz.func61, Tryz.ntmps61
  go_wp2_with fail
  refine (hcu _).mono ?_
  rintro e w2 ⟨rfl, hB2⟩
  have HB2 : Aside (Below w.heap.size w w2) := HBa.out.trans (hB2.mono (by rw [hsz]; omega))
  rw [hsz] at hB2
  have q4 := hbx w2 hB2 4
  have q5 := hbx w2 hB2 5
  simp only [List.getElem?_cons_zero, List.getElem?_cons_succ] at q4 q5
  clear hbx hsz hB2 HBa
  go_wp2_with fail
  go_quiet ((go_at_call 36; first | with_reducible exact Calls.quiet_of (hdt _) | with_reducible exact Calls.quiet_of (hdu _)))
  go_wp2_with fail
  go_ret3
  exact pc_end rfl HP.out (by simp [pcB]; rfl) (by simp [pcC]; rfl) (HB2.out.trans (below_drewN (Below.refl _ _) _))
end Go.Proofs.YtpikfdkgblghhaaGreatDoor
namespace Go.Proofs.YtpikfdkgblghhaaGreatDoor
open Go.RowKit
set_option maxRecDepth 100000
set_option linter.unusedSimpArgs false

theorem sumM_le : ∀ (l : List Md), (∀ m ∈ l, big m = false) → (∀ m ∈ l, ∀ x ∈ m.defs, x.tree.length ≤ 2199023255552) → sumM l ≤ l.length * 140737488355328
  | [], _, _ => by simp [sumM]
  | m :: r, h, h' => by
    have h1 := sumM_le r (fun x hx => h x (List.mem_cons_of_mem _ hx)) (fun x hx => h' x (List.mem_cons_of_mem _ hx))
    have h2 := h m (List.mem_cons_self ..)
    have h3 := sumT_le m.defs (h' m (List.mem_cons_self ..))
    simp [big] at h2
    have h4 : m.defs.length * 2199023255552 ≤ 64 * 2199023255552 := Nat.mul_le_mul_right _ (by omega)
    simp only [sumM, List.length_cons]; omega
theorem sumT_mono (l : List Df) (k : Nat) : sumT (l.take k) ≤ sumT l := by have := sumT_split l k; omega
theorem sumM_mono (l : List Md) (k : Nat) : sumM (l.take k) ≤ sumM l := by have := sumM_split l k; omega
theorem any_big {l : List Md} (h : ∀ j x, j < l.length → l[j]? = some x → big x = false) : l.any big = false := by
  rw [List.any_eq_false]
  intro x hx
  obtain ⟨j, hj⟩ := List.getElem?_of_mem hx
  rw [h j x (List.getElem?_eq_some_iff.1 hj).1 hj]
  simp
theorem some_big {l : List Md} {k : Nat} {x : Md} (hx : l[k]? = some x) (h : big x = true) : l.any big = true := List.any_eq_true.2 ⟨x, List.mem_of_getElem? hx, h⟩
theorem chkMs_next {l : List Md} {k : Nat} {x : Md} (h : l[k]? = some x) (h1 : chkM x = 0) : chkMs (l.drop k) = chkMs (l.drop (k + 1)) := by rw [drop_at h, chkMs, if_pos h1]
theorem chkMs_bad {l : List Md} {k : Nat} {x : Md} (h : l[k]? = some x) (h1 : chkM x ≠ 0) : chkMs (l.drop k) = chkM x := by rw [drop_at h, chkMs, if_neg h1]
theorem modN_many {l : List Md} (h : 8 < l.length) : modN l = 17 := by unfold modN; rw [if_pos h]
theorem modN_big {l : List Md} (h : ¬ 8 < l.length) (h2 : l.any big = true) : modN l = 17 := by unfold modN; rw [if_neg h, if_pos h2]
theorem modN_bad {l : List Md} (h : ¬ 8 < l.length) (h2 : l.any big = false) (h3 : chkMs l ≠ 0) : modN l = chkMs l := by unfold modN; rw [if_neg h, if_neg (by simp [h2]), if_neg h3]
theorem modN_fin {l : List Md} (h : ¬ 8 < l.length) (h2 : l.any big = false) (h3 : chkMs l = 0) : modN l = if 4096 < sumM l then 17 else 0 := by unfold modN; rw [if_neg h, if_neg (by simp [h2]), if_pos h3]

set_option maxHeartbeats 8000000 in
theorem treeModules_any (l : List Md) (hf : FitsM l) (v : Value) (w : World) (hl : IsMods w v l) :
    Calls Tryz.prog 33 #[v] w fun e w' => e = .returned (.int .i64 (modN l : Int)) ∧ Below w.heap.size w w' := by
  obtain ⟨a, c, rfl⟩ := RowOf.form hl
  by_cases h8 : 8 < l.length
  · have h8' : (8 : Int) < (l.length : Int) := by omega
    have HR : Aside (modN l = 17) := modN_many h8
    go_enter Tryz.func33, Tryz.ntmps33
    go_wp2_with fail
    go_ret
    rw [HR.out]
    exact ⟨rfl, Below.refl _ _⟩
  have h8' : decide ((8 : Int) < (l.length : Int)) = false := by simp; omega
  have HF : Aside (FitsM l) := hf
  have hl8 : l.length ≤ 8 := by omega
  clear h8 hf
  go_enter Tryz.func33, Tryz.ntmps33
  go_wp2_with fail
  clear h8'
  go_loopg [3, 16] l.length (fun g z t wr => ∃ k n : Nat, k + g = l.length ∧ t = .int .i64 (k : Int) ∧ z = .int .i64 (n : Int) ∧ n ≤ 1125899906842624 ∧ Below w.heap.size w wr ∧ Aside (n = sumM (l.take k) ∧ ∀ j x, j < k → l[j]? = some x → big x = false))
  case atStart => exact ⟨0, 0, by omega, rfl, rfl, by omega, Below.refl _ _, by simp [sumM], fun j x hj => absurd hj (by omega)⟩
  case round =>
    obtain ⟨k, n, hkg, rfl, rfl, hn, hB, HK⟩ := hrel
    have hws := hB.size
    by_cases hk : k < l.length
    · have hk' : (k : Int) < (l.length : Int) := by omega
      have hk0 : (0 : Int) ≤ (k : Int) := by omega
      obtain ⟨x, hx⟩ := getA hk
      have hxm := List.mem_of_getElem? hx
      obtain ⟨b1, o1, rfl, hlc, hb1, ia, ic, da, dc, hI, hD, p0, p1, p2, p3, p4⟩ := (hl.below hB).at hx
      have hil := HF.out.imps x hxm
      have hdl := HF.out.defs x hxm
      have htl : ∀ d ∈ x.defs, d.tree.length ≤ 2199023255552 := fun d hd => (HF.out.tree x hxm d hd).len
      by_cases hbg : 64 < x.imps.length + x.defs.length
      · have hbg' : (64 : Int) < (x.imps.length : Int) + (x.defs.length : Int) := by omega
        have HR : Aside (modN l = 17) := modN_big (by omega) (some_big hx (by unfold big; simpa using hbg))
        clear hx hl hI hD htl
        go_wp2_with fail
        go_ret
        rw [HR.out]
        exact ⟨rfl, hB.alloc hws _⟩
      · have hbg' : decide ((64 : Int) < (x.imps.length : Int) + (x.defs.length : Int)) = false := by simp; omega
        have HBG : Aside (∀ j y, j < k + 1 → l[j]? = some y → big y = false) := fun j y hj hy => by
          by_cases e : j = k
          · subst e; rw [hx] at hy; cases hy; unfold big; simpa using hbg
          · exact HK.out.2 j y (by omega) hy
        have hST : sumT x.defs ≤ 140737488355328 := by
          have h1 := sumT_le x.defs htl
          have h2 : x.defs.length * 2199023255552 ≤ 64 * 2199023255552 := Nat.mul_le_mul_right _ (by omega)
          omega
        have HN : Aside (n + sumT x.defs = sumM (l.take (k + 1))) := by show _ = _; rw [sumM_next hx, ← HK.out.1]
        have HLE : Aside (sumM (l.take (k + 1)) ≤ 1125899906842624) := by
          show _ ≤ _
          have h1 := sumM_le (l.take (k + 1)) (fun m hm => by
            obtain ⟨j, hj⟩ := List.getElem?_of_mem hm
            have hj' : j < k + 1 := by have := (List.getElem?_eq_some_iff.1 hj).1; simp at this; omega
            rw [List.getElem?_take, if_pos hj'] at hj
            exact HBG.out j m hj' hj) (fun m hm d hd => (HF.out.tree m (List.mem_of_mem_take hm) d hd).len)
          have h2 : (l.take (k + 1)).length ≤ 8 := by simp; omega
          have h3 : (l.take (k + 1)).length * 140737488355328 ≤ 8 * 140737488355328 := Nat.mul_le_mul_right _ h2
          omega
        have hB1 : ∀ o, Below w.heap.size w (wr.alloc o) := fun o => hB.alloc hws o
        have hD1 : ∀ o, IsDefs (wr.alloc o) (.slice da x.defs.length dc) x.defs := fun o => hD.below ((Below.refl _ _).alloc (Nat.le_refl _) o)
        clear HK hx hl hI
        go_upto_region 10 with fail
        have hBn := hB1 (.cells #[.string x.name, .slice ia x.imps.length ic, .slice da x.defs.length dc, .int .i64 x.ln, .int .i64 x.co] 58)
        have hDn := hD1 (.cells #[.string x.name, .slice ia x.imps.length ic, .slice da x.defs.length dc, .int .i64 x.ln, .int .i64 x.co] 58)
        clear hB1 hD1 hD hB hbg hbg' p0 p1 p2 p3 p4
        generalize wr.alloc (.cells #[.string x.name, .slice ia x.imps.length ic, .slice da x.defs.length dc, .int .i64 x.ln, .int .i64 x.co] 58) = w2 at *
        go_loopg [3, 31] x.defs.length (fun g z t w3 => ∃ j m : Nat, j + g = x.defs.length ∧ t = .int .i64 (j : Int) ∧ z = .int .i64 (m : Int) ∧ m ≤ n + 140737488355328 ∧ Below w2.heap.size w2 w3 ∧ Aside (m = n + sumT (x.defs.take j)))
        case atStart => exact ⟨0, n, by omega, rfl, rfl, by omega, Below.refl _ _, by show _ = _; simp [sumT]⟩
        case round =>
          obtain ⟨j, m, hjg, rfl, rfl, hm, hB3, HJ⟩ := hrel
          by_cases hj : j < x.defs.length
          · have hj' : (j : Int) < (x.defs.length : Int) := by omega
            have hj0 : (0 : Int) ≤ (j : Int) := by omega
            obtain ⟨y, hy⟩ := getA hj
            obtain ⟨b2, o2, rfl, hlc2, hb2, ta, tc, hnod, q0, q1, q2, q3, q4, q5⟩ := (hDn.below hB3).at hy
            have hyl := htl y (List.mem_of_getElem? hy)
            have HJ2 : Aside (m + y.tree.length = n + sumT (x.defs.take (j + 1))) := by show _ = _; rw [sumT_next hy, HJ.out]; omega
            have hm2 : m + y.tree.length ≤ n + 140737488355328 := by have h1 := sumT_mono x.defs (j + 1); have := HJ2.out; omega
            have hB4 : ∀ o, Below w2.heap.size w2 (wr.alloc o) := fun o => hB3.alloc hB3.size o
            clear hnod hy HJ hDn htl
            go_wp2_with fail
            go_roundg (x.defs.length - (j + 1))
            case measure => omega
            case rel => exact ⟨j + 1, m + y.tree.length, by omega, by go_num, by go_num, hm2, hB4 _, HJ2⟩
          · have hj' : ¬ (j : Int) < (x.defs.length : Int) := by omega
            have HE : Aside (m = sumM (l.take (k + 1))) := by show _ = _; rw [HJ.out, List.take_of_length_le (by omega), HN.out]
            have hm2 : m ≤ 1125899906842624 := by have := HE.out; have := HLE.out; omega
            clear HJ HN HLE
            go_wp2_with fail
            go_roundg (l.length - (k + 1))
            case measure => omega
            case rel => exact ⟨k + 1, m, by omega, by go_num, rfl, hm2, hBn.trans (hB3.mono hBn.size), HE.out, HBG.out⟩
    · have hk' : ¬ (k : Int) < (l.length : Int) := by omega
      have HNB : Aside (l.any big = false) := any_big fun j x hj hx => HK.out.2 j x (by omega) hx
      have HNN : Aside (n = sumM l) := by have := HK.out.1; rwa [List.take_of_length_le (by omega)] at this
      clear HK
      go_wp2_with fail
      go_loopg [44] l.length (fun g t w3 => ∃ j : Nat, j + g = l.length ∧ t = .int .i64 (j : Int) ∧ Below w.heap.size w w3 ∧ Aside (chkMs l = chkMs (l.drop j)))
      case atStart => exact ⟨0, by omega, rfl, hB, rfl⟩
      case round =>
        clear hB hws hkg hk hk'
        obtain ⟨j, hjg, rfl, hB, HJ⟩ := hrel
        have hws := hB.size
        by_cases hj : j < l.length
        · have hj' : (j : Int) < (l.length : Int) := by omega
          have hj0 : (0 : Int) ≤ (j : Int) := by omega
          obtain ⟨x, hx⟩ := getA hj
          have hxm := List.mem_of_getElem? hx
          obtain ⟨b1, o1, rfl, hlc, hb1, ia, ic, da, dc, hI, hD, p0, p1, p2, p3, p4⟩ := (hl.below hB).at hx
          have hB1 : ∀ o, Below wr.heap.size wr (wr.alloc o) := fun o => (Below.refl _ _).alloc (Nat.le_refl _) o
          have hcm := fun o => checkModule_any x (HF.out.imps x hxm) (HF.out.defs x hxm) (HF.out.name x hxm) (HF.out.istr x hxm) (HF.out.dstr x hxm) (HF.out.tree x hxm) ia da ic dc (wr.alloc o) (hI.below (hB1 o)) (hD.below (hB1 o))
          by_cases h0 : chkM x = 0
          · have HR : Aside (chkMs l = chkMs (l.drop (j + 1))) := by show _ = _; rw [HJ.out, chkMs_next hx h0]
            rw [h0] at hcm
            clear h0 HJ hx hl hI hD
            go_wp2_with (go_at_call 66; refine (hcm _).mono ?_; rintro e w4 ⟨rfl, hB4⟩)
            go_roundg (l.length - (j + 1))
            case measure => omega
            case rel => exact ⟨j + 1, by omega, by go_num, hB.trans (((hB1 _).trans (hB4.mono (by simp))).mono hws), HR⟩
          · have HR : Aside (modN l = chkM x) := by
              have h1 : chkMs l = chkM x := by rw [HJ.out, chkMs_bad hx h0]
              show _ = _
              rw [modN_bad (by omega) HNB.out (by rw [h1]; exact h0), h1]
            have h0' : ((chkM x : Int) != 0) = true := by simpa using h0
            clear h0 HJ hx hl hI hD
            go_wp2_with (go_at_call 66; refine (hcm _).mono ?_; rintro e w4 ⟨rfl, hB4⟩)
            go_ret
            rw [HR.out]
            exact ⟨rfl, hB.trans (((hB1 _).trans (hB4.mono (by simp))).mono hws)⟩
        · have hj' : ¬ (j : Int) < (l.length : Int) := by omega
          have HR : Aside (modN l = if 4096 < n then 17 else 0) := by
            show _ = _
            rw [modN_fin (by omega) HNB.out (by rw [HJ.out, List.drop_of_length_le (by omega)]; rfl), HNN.out]
          by_cases h4 : 4096 < n
          · have h4' : (4096 : Int) < (n : Int) := by omega
            go_wp2_with fail
            go_ret
            rw [HR.out, if_pos h4]
            exact ⟨rfl, hB⟩
          · have h4' : decide ((4096 : Int) < (n : Int)) = false := by simp; omega
            go_wp2_with fail
            go_ret
            rw [HR.out, if_neg h4]
            exact ⟨rfl, hB⟩
end Go.Proofs.YtpikfdkgblghhaaGreatDoor
