/- The document's Read, High, Id. -/
import Derived.Test.YtaaokecdmbmgbaaGreatDoorUbl
namespace Go.Proofs.YtaaokecdmbmgbaaGreatDoor
open Go.RowKit Cc
set_option maxRecDepth 100000
set_option linter.unusedSimpArgs false
set_option linter.unusedVariables false
namespace Cc
/-- How Read ends: a tree where the list is one; else whatever tree, and no. -/
def RrEnd (w : World) (q : Option C) (e : Ending) (w' : World) : Prop := match q with
  | none => ∃ t : N, ∃ a n c, e = .returned (.tuple #[tree t (.slice a n c), .bool false])
  | some c => ∃ kv, e = .returned (.tuple #[tree (nod c) kv, .bool true]) ∧ DT w' w.heap.size w'.heap.size c kv
end Cc
set_option maxHeartbeats 1600000 in
theorem dRead_any (l : List N) (v : Value) (w : World) (h : IsCos w v l) (hl : l.length ≤ 1000000) :
    Calls Tryz.prog 8 #[v] w fun e w' => RrEnd w (Cc.whole l) e w' ∧ Below w.heap.size w w' := by
  have hA : ∀ o, Below w.heap.size w (w.alloc o) := fun o => (Below.refl _ _).alloc (Nat.le_refl _) _
  have hcall : ∀ W, Below w.heap.size w W → Calls Tryz.prog 24 #[v, .int .i64 0, .int .i64 1] W fun e w' => RdEnd W l.length (tk 64 l) e w' ∧ Below W.heap.size W w' := by
    intro W hW
    have := dread_any 64 (by omega) l 0 v W (h.below hW) (by omega) hl
    rw [List.drop_zero] at this
    exact this
  obtain ⟨va, vc, rfl⟩ := h.form
  clear h
  have HB6 : Aside (∀ W w', Below W.heap.size W w' → W = w.alloc (.cells #[.int .i8 0, .int .i64 0, .bool false, .int .u8 0, .int .i64 0, .int .u8 0, .int .u8 0, .slice none 0 0] 31) → ∀ o, (w'.alloc o).heap[w.heap.size]? = some (.cells (tcells ⟨0, 0, false, 0, 0, 0, 0⟩ (.slice none 0 0)) 31 (0, 0)) ∧ Below w.heap.size w (w'.alloc o) ∧ w.heap.size < W.heap.size) := by
    rintro W w' hB rfl o
    have hb := (hA _).trans (hB.mono (by simp))
    have h1 : Below w'.heap.size w' (w'.alloc o) := (Below.refl _ _).alloc (Nat.le_refl _) _
    have hlt : w.heap.size < w'.heap.size := Nat.lt_of_lt_of_le (by simp) hB.size
    exact ⟨(h1.block _ hlt).trans ((hB.block w.heap.size (by simp)).trans (heap_top _ _)), hb.trans (h1.mono hb.size), by simp⟩
  cases htk : tk 64 l with
  | none =>
    have HW : Aside (Cc.whole l = none) := by rw [Aside, Cc.whole, htk]
    rw [htk] at hcall
    have hcall' : ∀ W, Below w.heap.size w W → Calls Tryz.prog 24 #[.slice va l.length vc, .int .i64 0, .int .i64 1] W fun e w' => e = .returned (.tuple #[.agg #[.int .i8 0, .int .i64 0, .bool false, .int .u8 0, .int .i64 0, .int .u8 0, .int .u8 0, .slice none 0 0], .int .i64 (-1)]) ∧ Below W.heap.size W w' := hcall
    have hne : ((-1 : Int) == (l.length : Int)) = false := by first | (simp; done) | (simp; omega)
    have hne' : ¬ ((-1 : Int) = (l.length : Int)) := by omega
    clear htk hcall
    rw [HW.out]
    go_enter Tryz.func8, Tryz.ntmps8
    go_wp2_with (go_at_call 24; refine (hcall' _ (hA _)).mono ?_; rintro e w3 ⟨rfl, hB3⟩; obtain ⟨hz, hb, -⟩ := HB6.out _ _ hB3 rfl (.cells #[.int .i8 0, .int .i64 0, .bool false, .int .u8 0, .int .i64 0, .int .u8 0, .int .u8 0, .slice none 0 0] 31); obtain ⟨⟨z0, z1, z2, z3, z4, z5, z6, z7⟩, y0, y1, y2, y3, y4, y5, y6, y7⟩ := tcells_at hz)
    obtain ⟨W9, hW9⟩ : ∃ W9, W9 = set8 (w3.alloc (.cells #[.int .i8 0, .int .i64 0, .bool false, .int .u8 0, .int .i64 0, .int .u8 0, .int .u8 0, .slice none 0 0] 31)) w.heap.size ⟨0, 0, false, 0, 0, 0, 0⟩ (.slice none 0 0) := ⟨_, rfl⟩
    have hb9 : Below w.heap.size w W9 := by rw [hW9]; exact set8_below hb (Nat.le_refl _)
    have hz9 : W9.heap[w.heap.size]? = some (.cells (tcells ⟨0, 0, false, 0, 0, 0, 0⟩ (.slice none 0 0)) 31 (0, 0)) := by rw [hW9]; exact set8_same hz
    obtain ⟨⟨v0, v1, v2, v3, v4, v5, v6, v7⟩, -⟩ := tcells_at hz9
    change bodyPost _ _ _ _ _ (set8 (w3.alloc (.cells #[.int .i8 0, .int .i64 0, .bool false, .int .u8 0, .int .i64 0, .int .u8 0, .int .u8 0, .slice none 0 0] 31)) w.heap.size ⟨0, 0, false, 0, 0, 0, 0⟩ (.slice none 0 0))
    rw [← hW9]
    refine bodyPost_ret (v := .tuple #[ztree, .bool false]) (by simp [results, Tryz.results8, go_sem, ztree, v0, v1, v2, v3, v4, v5, v6, v7]) rfl ?_
    exact ⟨⟨⟨0, 0, false, 0, 0, 0, 0⟩, _, _, _, rfl⟩, hb9⟩
  | some p =>
    obtain ⟨c, r⟩ := p
    have hlen : l.length = Cc.size c + r.length := by rw [(tk_of _ _ _ _ htk).1, List.length_append, flat_len]
    have hpos : 1 ≤ Cc.size c := by cases c <;> simp [Cc.size] <;> omega
    obtain ⟨P, hP⟩ : ∃ P, P = l.length - r.length := ⟨_, rfl⟩
    have hcall' : ∀ W, Below w.heap.size w W → Calls Tryz.prog 24 #[.slice va l.length vc, .int .i64 0, .int .i64 1] W fun e w' => ∃ da dn dc, e = .returned (.tuple #[.agg #[.int .i8 (nod c).op, .int .i64 (nod c).proj, .bool (nod c).inj, .int .u8 (nod c).head, .int .i64 (nod c).label, .int .u8 (nod c).frm, .int .u8 (nod c).tto, .slice da dn dc], .int .i64 (P : Int)]) ∧ DT w' W.heap.size w'.heap.size c (.slice da dn dc) ∧ Below W.heap.size W w' := by
      intro W hW
      have h0 := hcall W hW
      rw [htk] at h0
      refine h0.mono ?_
      rintro e w' ⟨⟨kd, he, hdt⟩, hB⟩
      obtain ⟨da, dc, kl, ekd, -⟩ := hdt.row
      subst ekd
      refine ⟨da, _, dc, ?_, hdt, hB⟩
      rw [he, show (l.length : Int) - (r.length : Int) = (P : Int) by omega]
    have HW : Aside (Cc.whole l = if r = [] then some c else none) := by
      rw [Aside, Cc.whole, htk]
      cases r with
      | nil => rfl
      | cons a b => rfl
    have HR : Aside (P = l.length ↔ r = []) := by
      rw [Aside]
      constructor
      · intro e; exact List.eq_nil_of_length_eq_zero (by omega)
      · rintro rfl; simpa using hP
    have hl0 : (0 : Int) < (l.length : Int) := by omega
    clear htk hcall hP hlen
    by_cases hr : P = l.length
    · subst hr
      have HW2 : Aside (Cc.whole l = some c) := by rw [Aside, HW.out, if_pos (HR.out.1 rfl)]
      clear HW HR
      rw [HW2.out]
      go_enter Tryz.func8, Tryz.ntmps8
      go_wp2_with (go_at_call 24; refine (hcall' _ (hA _)).mono ?_; rintro e w3 ⟨da, dn, dc, rfl, hDT, hB3⟩; obtain ⟨hz, hb, hlt⟩ := HB6.out _ _ hB3 rfl (.cells #[.int .i8 (nod c).op, .int .i64 (nod c).proj, .bool (nod c).inj, .int .u8 (nod c).head, .int .i64 (nod c).label, .int .u8 (nod c).frm, .int .u8 (nod c).tto, .slice da dn dc] 31); have HDT := (show Aside _ from hDT); have HLT := (show Aside _ from hlt); clear hDT hlt; obtain ⟨⟨z0, z1, z2, z3, z4, z5, z6, z7⟩, y0, y1, y2, y3, y4, y5, y6, y7⟩ := tcells_at hz)
      obtain ⟨W9, hW9⟩ : ∃ W9, W9 = set8 (w3.alloc (.cells #[.int .i8 (nod c).op, .int .i64 (nod c).proj, .bool (nod c).inj, .int .u8 (nod c).head, .int .i64 (nod c).label, .int .u8 (nod c).frm, .int .u8 (nod c).tto, .slice da dn dc] 31)) w.heap.size (nod c) (.slice da dn dc) := ⟨_, rfl⟩
      have hb9 : Below w.heap.size w W9 := by rw [hW9]; exact set8_below hb (Nat.le_refl _)
      have hz9 : W9.heap[w.heap.size]? = some (.cells (tcells (nod c) (.slice da dn dc)) 31 (0, 0)) := by rw [hW9]; exact set8_same hz
      have HD9 : Aside (DT W9 w.heap.size W9.heap.size c (.slice da dn dc)) := by
        have h1 := HDT.out.below (Nat.le_refl _) ((Below.refl _ _).alloc (Nat.le_refl _) (.cells #[.int .i8 (nod c).op, .int .i64 (nod c).proj, .bool (nod c).inj, .int .u8 (nod c).head, .int .i64 (nod c).label, .int .u8 (nod c).frm, .int .u8 (nod c).tto, .slice da dn dc] 31))
        have h2 := HLT.out
        have h3 := h1.keep (w' := W9) fun g hg _ => by rw [hW9]; exact set8_other g (by omega)
        refine h3.mono (by omega) ?_
        rw [hW9, set8_size]
        simp
      obtain ⟨⟨v0, v1, v2, v3, v4, v5, v6, v7⟩, -⟩ := tcells_at hz9
      change bodyPost _ _ _ _ _ (set8 (w3.alloc (.cells #[.int .i8 (nod c).op, .int .i64 (nod c).proj, .bool (nod c).inj, .int .u8 (nod c).head, .int .i64 (nod c).label, .int .u8 (nod c).frm, .int .u8 (nod c).tto, .slice da dn dc] 31)) w.heap.size (nod c) (.slice da dn dc))
      rw [← hW9]
      have hl9 : 0 < l.length := by omega
      refine bodyPost_ret (v := .tuple #[tree (nod c) (.slice da dn dc), .bool true]) (by simp [hl9, results, Tryz.results8, go_sem, v0, v1, v2, v3, v4, v5, v6, v7]) rfl ?_
      exact ⟨⟨_, rfl, HD9.out⟩, hb9⟩
    · have HW2 : Aside (Cc.whole l = none) := by rw [Aside, HW.out, if_neg (fun e => hr (HR.out.2 e))]
      clear HW HR
      have hr1 : ((P : Int) == (l.length : Int)) = false := by simp; omega
      have hr2 : ¬ ((P : Int) = (l.length : Int)) := by omega
      rw [HW2.out]
      go_enter Tryz.func8, Tryz.ntmps8
      go_wp2_with (go_at_call 24; refine (hcall' _ (hA _)).mono ?_; rintro e w3 ⟨da, dn, dc, rfl, hDT, hB3⟩; obtain ⟨hz, hb, hlt⟩ := HB6.out _ _ hB3 rfl (.cells #[.int .i8 (nod c).op, .int .i64 (nod c).proj, .bool (nod c).inj, .int .u8 (nod c).head, .int .i64 (nod c).label, .int .u8 (nod c).frm, .int .u8 (nod c).tto, .slice da dn dc] 31); clear hDT hlt; obtain ⟨⟨z0, z1, z2, z3, z4, z5, z6, z7⟩, y0, y1, y2, y3, y4, y5, y6, y7⟩ := tcells_at hz)
      obtain ⟨W9, hW9⟩ : ∃ W9, W9 = set8 (w3.alloc (.cells #[.int .i8 (nod c).op, .int .i64 (nod c).proj, .bool (nod c).inj, .int .u8 (nod c).head, .int .i64 (nod c).label, .int .u8 (nod c).frm, .int .u8 (nod c).tto, .slice da dn dc] 31)) w.heap.size (nod c) (.slice da dn dc) := ⟨_, rfl⟩
      have hb9 : Below w.heap.size w W9 := by rw [hW9]; exact set8_below hb (Nat.le_refl _)
      have hz9 : W9.heap[w.heap.size]? = some (.cells (tcells (nod c) (.slice da dn dc)) 31 (0, 0)) := by rw [hW9]; exact set8_same hz
      obtain ⟨⟨v0, v1, v2, v3, v4, v5, v6, v7⟩, -⟩ := tcells_at hz9
      change bodyPost _ _ _ _ _ (set8 (w3.alloc (.cells #[.int .i8 (nod c).op, .int .i64 (nod c).proj, .bool (nod c).inj, .int .u8 (nod c).head, .int .i64 (nod c).label, .int .u8 (nod c).frm, .int .u8 (nod c).tto, .slice da dn dc] 31)) w.heap.size (nod c) (.slice da dn dc))
      rw [← hW9]
      refine bodyPost_ret (v := .tuple #[tree (nod c) (.slice da dn dc), .bool false]) (by simp [results, Tryz.results8, go_sem, v0, v1, v2, v3, v4, v5, v6, v7]) rfl ?_
      exact ⟨⟨nod c, _, _, _, rfl⟩, hb9⟩
end Go.Proofs.YtaaokecdmbmgbaaGreatDoor
