/- The document's reader: a node that may be, from its kids. -/
import Derived.Test.YtaaokecdmbmgbaaGreatDoorUbk
import Derived.Test.YtaaokecdmbmgbaaGreatDoorUbg
namespace Go.Proofs.YtaaokecdmbmgbaaGreatDoor
open Go.RowKit Cc
set_option maxRecDepth 100000
set_option linter.unusedSimpArgs false
set_option linter.unusedVariables false
namespace Cc
theorem tks_drop {n k m : Nat} {l : List N} {cs : List C} {r1 : List N} (h : tks n k (l.drop m) = some (cs, r1)) : r1.length ≤ l.length ∧ l.drop (l.length - r1.length) = r1 := by
  have e := tks_flat h
  have hl := congrArg List.length e
  rw [List.length_append, List.length_drop] at hl
  have h1 : r1 = (l.drop m).drop (flats cs).length := by rw [e, List.drop_left]
  refine ⟨by omega, ?_⟩
  by_cases hr : r1.length = 0
  · rw [List.eq_nil_of_length_eq_zero hr]; simp
  · rw [List.drop_drop] at h1
    conv => rhs; rw [h1]
    congr 1
    omega
theorem Rk.facts {w0 w : World} {B6 B8 base : Nat} {x : N} {kv : Value} {ks : List (C × Value)} (h : Rk w0 w B6 B8 base x kv ks) (o1 o2 : Obj) :
    w.cell? ⟨B8, 7, none⟩ = some kv ∧ (w.alloc o1).cell? ⟨B8, 7, none⟩ = some kv ∧ ((w.alloc o1).alloc o2).cell? ⟨B8, 7, none⟩ = some kv ∧ Rk w0 (w.alloc o1) B6 B8 base x kv ks ∧ Rk w0 ((w.alloc o1).alloc o2) B6 B8 base x kv ks := by
  have h1 := h.next ((Below.refl _ _).alloc (Nat.le_refl _) o1)
  have h2 := h1.next ((Below.refl _ _).alloc (Nat.le_refl _) o2)
  exact ⟨(tcells_at h.h8).1.2.2.2.2.2.2.2, (tcells_at h1.h8).1.2.2.2.2.2.2.2, (tcells_at h2.h8).1.2.2.2.2.2.2.2, h1, h2⟩
theorem heap_top2 (w : World) (o1 o2 : Obj) : ((w.alloc o1).alloc o2).heap[w.heap.size + 1]? = some o2 := by
  have := heap_top (w.alloc o1) o2
  rwa [show (w.alloc o1).heap.size = w.heap.size + 1 by simp] at this
theorem Rk.far {w0 w w' : World} {B6 B8 base : Nat} {x : N} {kv : Value} {ks : List (C × Value)} (h : Rk w0 w B6 B8 base x kv ks) (hg : w.grownBy w' kv.ownBlock) : w'.cell? ⟨B8, 7, none⟩ = some kv ∧ w'.frozen? ⟨B8, 7, none⟩ = false := by
  have n8 : w'.heap[B8]? = some (.cells (tcells x kv) 31 (0, 0)) := (hg.block B8 h.size fun e => by have := (World.ownsRow.lt h.own B8 e.symm).1; have := h.l8b; omega).trans h.h8
  exact ⟨(tcells_at n8).1.2.2.2.2.2.2.2, (tcells_at n8).2.2.2.2.2.2.2.2⟩
end Cc
set_option maxHeartbeats 3200000 in
theorem dread_step (n : Nat) (hn : n < 64) (hT : RdC n) (l : List N) (i : Nat) (x : N) (v : Value) (w : World) (h : IsCos w v l) (hx : l[i]? = some x) (hl : l.length ≤ 1000000) (s : Sh) (hc : cls x = some s) :
    Calls Tryz.prog 24 #[v, .int .i64 (i : Int), .int .i64 (65 - ((n + 1 : Nat) : Int))] w fun e w' => RdEnd w l.length (tk (n + 1) (l.drop i)) e w' ∧ Below w.heap.size w w' := by
  have hi : i < l.length := (List.getElem?_eq_some_iff.1 hx).1
  obtain ⟨q, hq⟩ : ∃ q, q = tk (n + 1) (l.drop i) := ⟨_, rfl⟩
  rw [← hq]
  have HE : Aside (q = match tks n (nk s) (l.drop (i + 1)) with | none => none | some (cs, r1) => if grB (mk s cs) = true then some (mk s cs, r1) else none) := by
    rw [Aside, hq, drop_at hx]; exact tk_cons n x _ s hc
  have hA : ∀ o, Below w.heap.size w (w.alloc o) := fun o => (Below.refl _ _).alloc (Nat.le_refl _) _
  have HI : Aside (IsCos w v l) := h
  have HX : Aside (x = shN s) := (cls_of hc).1
  have h' : IsCos (w.alloc (.cells (tcells ⟨0, 0, false, 0, 0, 0, 0⟩ (.slice none 0 0)) 31)) v l := h.below (hA _)
  obtain ⟨b, o, c, rfl, hA8⟩ := h'.at hx
  have hA9 : ∀ W, Below w.heap.size w W → At1 W b (o + i * 7) x := by
    intro W hW
    obtain ⟨b', o', c', e, h8⟩ := (h.below hW).at hx
    injection e with e _ _
    injection e with e
    injection e with e1 e2
    subst e1 e2
    exact h8
  have hi' : (i : Int) < (l.length : Int) := by omega
  have hi0 : (0 : Int) ≤ (i : Int) := by omega
  have hi9 : (i : Int) ≤ 1000000 := by omega
  have cg : ∀ W, Calls Tryz.prog 60 #[.agg #[.int .i8 x.op, .int .i64 x.proj, .bool x.inj, .int .u8 x.head, .int .i64 x.label, .int .u8 x.frm, .int .u8 x.tto]] W fun e w' => e = .returned (.bool true) ∧ Below W.heap.size W w' := fun W => by have := dgood_any x W; rwa [hc] at this
  have ck := dkids_any x s hc
  have hK2 : nk s ≤ 2 := by cases s <;> simp [nk]
  have HM : Aside ((65 - ((n + 1 : Nat) : Int)) + 1 = 65 - (n : Int)) := by show _ = _; omega
  have hd : (65 - ((n + 1 : Nat) : Int)) ≤ 64 := by omega
  have hd1 : 1 ≤ (65 - ((n + 1 : Nat) : Int)) := by omega
  generalize (65 - ((n + 1 : Nat) : Int)) = dp at *
  have HT : Aside (RdC n) := hT
  clear h h' hq hx hc hT
  generalize hKs : nk s = K at *
  have HKs : Aside (nk s = K) := hKs
  clear hKs
  go_enter Tryz.func24, Tryz.ntmps24
  have HB6 : Aside (∀ W w', Below W.heap.size W w' → W = w.alloc (.cells #[.int .i8 0, .int .i64 0, .bool false, .int .u8 0, .int .i64 0, .int .u8 0, .int .u8 0, .slice none 0 0] 31) → w'.heap[w.heap.size]? = some (.cells (tcells ⟨0, 0, false, 0, 0, 0, 0⟩ (.slice none 0 0)) 31 (0, 0)) ∧ Below w.heap.size w w' ∧ w.heap.size < w'.heap.size ∧ At1 w' b (o + i * 7) x) := by
    rintro W w' hB rfl
    have hb := (hA _).trans (hB.mono (by simp))
    exact ⟨(hB.block w.heap.size (by simp)).trans (heap_top _ _), hb, Nat.lt_of_lt_of_le (by simp) hB.size, hA9 _ hb⟩
  obtain ⟨g0, g1, g2, g3, g4, g5, g6⟩ := hA8
  unfold tcells at g0 g1 g2 g3 g4 g5 g6
  go_wp2_with (go_at_call 60; refine (cg _).mono ?_; rintro e w1 ⟨rfl, hB1⟩; obtain ⟨hz, hB2, hB3, r0, r1, r2, r3, r4, r5, r6⟩ := HB6.out _ _ hB1 rfl; clear g0 g1 g2 g3 g4 g5 g6)
  obtain ⟨W0, hW0⟩ : ∃ W0, W0 = w1.alloc (.cells #[.int .i8 x.op, .int .i64 x.proj, .bool x.inj, .int .u8 x.head, .int .i64 x.label, .int .u8 x.frm, .int .u8 x.tto, .slice none 0 0] 31) := ⟨_, rfl⟩
  rw [← hW0]
  have HR0 : Aside (Rk w W0 w.heap.size w1.heap.size (w1.heap.size + 1) x (.slice none 0 0) []) := by
    have hb : Below w1.heap.size w1 W0 := by rw [hW0]; exact (Below.refl _ _).alloc (Nat.le_refl _) _
    refine ⟨hB2.trans (hb.mono hB2.size), (hb.block _ hB3).trans hz, by rw [hW0]; exact heap_top _ _, Nat.le_refl _, hB3, Nat.lt_succ_self _, by rw [hW0]; simp, ⟨by simp [drow], .inl ⟨rfl, rfl⟩⟩, by simp, fun _ => rfl⟩
  obtain ⟨B8, hB8⟩ : ∃ B8, B8 = w1.heap.size := ⟨_, rfl⟩
  rw [← hB8] at HR0 ⊢
  have hb0 : (0 : Int) ≤ dp := by omega
  clear hW0 hB8 hB1 hz hB2 hB3 r0 r1 r2 r3 r4 r5 r6 cg HB6 hA9 hA
  have HF : Aside (w.heap.size < B8) := HR0.out.l68
  have e1 : decide (l.length ≤ i) = false := by simp; omega
  have e2 : decide (64 < dp) = false := by simp; omega
  simp only [e1, e2, Bool.or_false]
  clear e1 e2
  go_loopg [1, 9] K (fun gq v1 v9 wr => ∃ (k P : Nat) (cs : List C) (r1 : List N) (kv : Value) (ks : List (C × Value)), k + gq = K ∧ v9 = .int .i64 (k : Int) ∧ v1 = .int .i64 (P : Int) ∧ P + r1.length = l.length ∧ Aside (tks n k (l.drop (i + 1)) = some (cs, r1)) ∧ Aside (ks.map Prod.fst = cs) ∧ Aside (Rk w wr w.heap.size B8 (B8 + 1) x kv ks))
  case atStart => exact ⟨0, i + 1, [], l.drop (i + 1), .slice none 0 0, [], by omega, rfl, by go_num, by rw [List.length_drop]; omega, rfl, rfl, HR0.out⟩
  case round =>
    clear HR0
    obtain ⟨k, P, cs, r1, kv, ks, hkg, rfl, rfl, hP, HTk, HKc, HRk⟩ := hrel
    obtain ⟨⟨c0, c1, c2, c3, c4, c5, c6, c7⟩, -⟩ := tcells_at HRk.out.h8
    have hsfx := tks_drop HTk.out
    have hcl := tks_len HTk.out
    have hkl : ks.length = k := by rw [← hcl, ← HKc.out, List.length_map]
    have hP0 : (0 : Int) ≤ (P : Int) := by omega
    subst hkl
    by_cases hk : ks.length < K
    · have hk' : (ks.length : Int) < (K : Int) := by omega
      have hcall : ∀ W, Below wr.heap.size wr W → Calls Tryz.prog 24 #[.slice (some ⟨b, o, none⟩) l.length c, .int .i64 (P : Int), .int .i64 (dp + 1)] W fun e w' => RdEnd W l.length (tk n r1) e w' ∧ Below W.heap.size W w' := by
        intro W hW
        rw [HM.out]
        have h1 := HT.out l P _ W (HI.out.below (HRk.out.bl.trans (hW.mono HRk.out.bl.size))) (by omega) hl
        rw [show l.drop P = r1 by rw [← hsfx.2]; congr 1; omega] at h1
        exact h1
      cases htk : tk n r1 with
      | none =>
        have HN : Aside (q = none) := by rw [HE.out, tks_bad HTk.out htk hk]; rfl
        rw [htk] at hcall
        have hcall' : ∀ W, Below wr.heap.size wr W → Calls Tryz.prog 24 #[.slice (some ⟨b, o, none⟩) l.length c, .int .i64 (P : Int), .int .i64 (dp + 1)] W fun e w' => e = .returned (.tuple #[.agg #[.int .i8 0, .int .i64 0, .bool false, .int .u8 0, .int .i64 0, .int .u8 0, .int .u8 0, .slice none 0 0], .int .i64 (-1)]) ∧ Rk w w' w.heap.size B8 (B8 + 1) x kv ks := by
          intro W hW
          refine (hcall W hW).mono ?_
          rintro e w' ⟨he, hB⟩
          exact ⟨he, HRk.out.next (hW.trans (hB.mono hW.size))⟩
        clear htk hcall
        go_wp2_with (first | (go_at_call 61; refine (ck _).mono ?_; rintro e w2 ⟨rfl, hB2⟩) | (go_at_call 24; refine (hcall' _ hB2).mono ?_; rintro e w3 ⟨rfl, hR3⟩; have HR4 : Aside (Rk w (w3.alloc (.cells #[.int .i8 0, .int .i64 0, .bool false, .int .u8 0, .int .i64 0, .int .u8 0, .int .u8 0, .slice none 0 0] 31)) w.heap.size B8 (B8 + 1) x kv ks) := hR3.next ((Below.refl _ _).alloc (Nat.le_refl _) _); obtain ⟨⟨z0, z1, z2, z3, z4, z5, z6, z7⟩, y0, y1, y2, y3, y4, y5, y6, y7⟩ := tcells_at HR4.out.z6))
        obtain ⟨W9, hW9⟩ : ∃ W9, W9 = set8 (w3.alloc (.cells #[.int .i8 0, .int .i64 0, .bool false, .int .u8 0, .int .i64 0, .int .u8 0, .int .u8 0, .slice none 0 0] 31)) w.heap.size ⟨0, 0, false, 0, 0, 0, 0⟩ (.slice none 0 0) := ⟨_, rfl⟩
        have hb9 : Below w.heap.size w W9 := by rw [hW9]; exact set8_below (HR4.out.bl) (Nat.le_refl _)
        have hz9 : W9.heap[w.heap.size]? = some (.cells (tcells ⟨0, 0, false, 0, 0, 0, 0⟩ (.slice none 0 0)) 31 (0, 0)) := by rw [hW9]; exact set8_same HR4.out.z6
        obtain ⟨⟨v0, v1, v2, v3, v4, v5, v6, v7⟩, -⟩ := tcells_at hz9
        change bodyPost _ _ _ _ _ (set8 (w3.alloc (.cells #[.int .i8 0, .int .i64 0, .bool false, .int .u8 0, .int .i64 0, .int .u8 0, .int .u8 0, .slice none 0 0] 31)) w.heap.size ⟨0, 0, false, 0, 0, 0, 0⟩ (.slice none 0 0))
        rw [← hW9]
        refine bodyPost_ret (v := .tuple #[ztree, .int .i64 (-1)]) (by simp [results, Tryz.results24, go_sem, ztree, v0, v1, v2, v3, v4, v5, v6, v7]) rfl ?_
        rw [HN.out]
        exact ⟨rfl, hb9⟩
      | some p =>
        obtain ⟨d, r2⟩ := p
        have HD : Aside (tk n r1 = some (d, r2)) := htk
        have hlen2 : r2.length ≤ r1.length := by rw [(tk_of _ _ _ _ htk).1, List.length_append]; omega
        rw [htk] at hcall
        obtain ⟨P2, hP2⟩ : ∃ P2, P2 = l.length - r2.length := ⟨_, rfl⟩
        have hcall' : ∀ W, Below wr.heap.size wr W → Calls Tryz.prog 24 #[.slice (some ⟨b, o, none⟩) l.length c, .int .i64 (P : Int), .int .i64 (dp + 1)] W fun e w' => ∃ da dn dc, e = .returned (.tuple #[.agg #[.int .i8 (nod d).op, .int .i64 (nod d).proj, .bool (nod d).inj, .int .u8 (nod d).head, .int .i64 (nod d).label, .int .u8 (nod d).frm, .int .u8 (nod d).tto, .slice da dn dc], .int .i64 (P2 : Int)]) ∧ DT w' W.heap.size w'.heap.size d (.slice da dn dc) ∧ Below W.heap.size W w' := by
          intro W hW
          refine (hcall W hW).mono ?_
          rintro e w' ⟨⟨kd, he, hdt⟩, hB⟩
          obtain ⟨da, dc, kl, ekd, -⟩ := hdt.row
          subst ekd
          refine ⟨da, _, dc, ?_, hdt, hB⟩
          rw [he, show (l.length : Int) - (r2.length : Int) = (P2 : Int) by omega]
        have HP2 : Aside (P2 + r2.length = l.length) := by show _ = _; omega
        have hP3 : ¬ ((P2 : Int) < 0) := by omega
        have hP4 : (0 : Int) ≤ (P2 : Int) := by omega
        have hk9 : (ks.length : Int) ≤ 2 := by omega
        have hk8 : (0 : Int) ≤ (ks.length : Int) := by omega
        have hks2 : ks.length ≤ 2 := by omega
        clear htk hcall hP2 hcl
        go_wp2_with (first | (go_at_call 61; refine (ck _).mono ?_; rintro e w2 ⟨rfl, hB2⟩) | (go_at_call 24; refine (hcall' _ hB2).mono ?_; rintro e w3 ⟨da, dn, dc, rfl, hDT, hB3⟩; obtain ⟨m7, m8, m9, HR4, HR5⟩ := ((HRk.out.next hB2).next hB3).facts (.cells #[.int .i8 (nod d).op, .int .i64 (nod d).proj, .bool (nod d).inj, .int .u8 (nod d).head, .int .i64 (nod d).label, .int .u8 (nod d).frm, .int .u8 (nod d).tto, .slice da dn dc] 31) (.cells #[.int .i8 (nod d).op, .int .i64 (nod d).proj, .bool (nod d).inj, .int .u8 (nod d).head, .int .i64 (nod d).label, .int .u8 (nod d).frm, .int .u8 (nod d).tto, .slice da dn dc] 31)) | (at_builtin; go_must (refine wpList_app8 rfl _ _ rfl (B8 + 1) _ kv ks rfl HR5.own HR5.bs (w3.heap.size + 1) 1 d da dn dc rfl (heap_top2 _ _ _) hks2 ?_); intro g6 cap6 w6 ho6 hg6 hgg6 hlt6; obtain ⟨j7, j8⟩ := HR5.far hg6; have HO6 : Aside (_ ∧ _ ∧ _) := ⟨ho6, hg6, hgg6⟩; have HO7 : Aside (_ ∧ _ ∧ _) := ⟨hB2, hB3, hDT⟩; clear ho6 hg6 hgg6 hlt6))
        go_roundg (K - (ks.length + 1))
        case measure => omega
        case rel =>
          obtain ⟨ho6, hg6, hgg6⟩ := HO6.out
          obtain ⟨hB2, hB3, hDT⟩ := HO7.out
          refine ⟨ks.length + 1, P2, cs ++ [d], r2, .slice (some ⟨g6, 0, none⟩) (ks.length + 1) cap6, ks ++ [(d, .slice da dn dc)], by omega, by go_num, rfl, HP2.out, tks_next HTk.out HD.out, by rw [Aside, List.map_append, HKc.out]; rfl, ?_⟩
          refine Rk.app (HRk.out.next hB2) hB3 (((Below.refl _ _).alloc (Nat.le_refl _) _).alloc (by simp) _) hDT ho6 hg6 ?_
          intro g e
          have e' : g6 = g := by simpa [Value.ownBlock] using e
          subst e'
          exact hgg6
    · obtain rfl : ks.length = K := by omega
      have hk' : ¬ (ks.length : Int) < (ks.length : Int) := by omega
      have hcs : cs.length = nk s := by rw [hcl, HKs.out]
      have HQ : Aside (q = if grB (mk s cs) = true then some (mk s cs, r1) else none) := by rw [Aside, HE.out, HTk.out]
      have hxn : nod (mk s cs) = x := by rw [nod, sh_mk hcs, HX.out]
      have HN : Aside (nod (mk s cs) = x) := hxn
      have hdt : DT wr (B8 + 1) wr.heap.size (mk s cs) kv := HRk.out.tree (by rw [HKc.out, kidsC_mk hcs])
      have HDT : Aside (DT wr (B8 + 1) wr.heap.size (mk s cs) kv) := hdt
      obtain ⟨ka, kc, kl, rfl, -⟩ := hdt.row
      have hgr : ∀ W, Below wr.heap.size wr W → Calls Tryz.prog 62 #[.agg #[.int .i8 x.op, .int .i64 x.proj, .bool x.inj, .int .u8 x.head, .int .i64 x.label, .int .u8 x.frm, .int .u8 x.tto, .slice ka kl.length kc]] W fun e w' => e = .returned (.bool (grB (mk s cs))) ∧ Below wr.heap.size wr w' := by
        intro W hW
        have h1 := dgrounds_any (mk s cs) _ _ _ W (hdt.below (Nat.le_refl _) hW) hW.size
        rw [hxn] at h1
        refine h1.mono ?_
        rintro e w' ⟨rfl, hB⟩
        exact ⟨rfl, hW.trans (hB.mono hW.size)⟩
      obtain ⟨gb, hgb⟩ : ∃ gb, gb = grB (mk s cs) := ⟨_, rfl⟩
      rw [← hgb] at hgr HQ
      generalize kl.length = kn at *
      clear hgb hxn hdt hcs hcl hsfx
      cases gb
      · go_wp2_with (first | (go_at_call 61; refine (ck _).mono ?_; rintro e w2 ⟨rfl, hB2⟩; obtain ⟨⟨b0, b1, b2, b3, b4, b5, b6, b7⟩, -⟩ := tcells_at (HRk.out.next hB2).h8) | (go_at_call 62; refine (hgr _ hB2).mono ?_; rintro e w3 ⟨rfl, hB3⟩; have HR4 : Aside (Rk w w3 w.heap.size B8 (B8 + 1) x (.slice ka kn kc) ks) := HRk.out.next hB3; obtain ⟨⟨z0, z1, z2, z3, z4, z5, z6, z7⟩, y0, y1, y2, y3, y4, y5, y6, y7⟩ := tcells_at HR4.out.z6))
        obtain ⟨W9, hW9⟩ : ∃ W9, W9 = set8 w3 w.heap.size ⟨0, 0, false, 0, 0, 0, 0⟩ (.slice none 0 0) := ⟨_, rfl⟩
        have hb9 : Below w.heap.size w W9 := by rw [hW9]; exact set8_below (HR4.out.bl) (Nat.le_refl _)
        have hz9 : W9.heap[w.heap.size]? = some (.cells (tcells ⟨0, 0, false, 0, 0, 0, 0⟩ (.slice none 0 0)) 31 (0, 0)) := by rw [hW9]; exact set8_same HR4.out.z6
        obtain ⟨⟨v0, v1, v2, v3, v4, v5, v6, v7⟩, -⟩ := tcells_at hz9
        change bodyPost _ _ _ _ _ (set8 w3 w.heap.size ⟨0, 0, false, 0, 0, 0, 0⟩ (.slice none 0 0))
        rw [← hW9]
        refine bodyPost_ret (v := .tuple #[ztree, .int .i64 (-1)]) (by simp [results, Tryz.results24, go_sem, ztree, v0, v1, v2, v3, v4, v5, v6, v7]) rfl ?_
        rw [HQ.out, if_neg (by simp)]
        exact ⟨rfl, hb9⟩
      · go_wp2_with (first | (go_at_call 61; refine (ck _).mono ?_; rintro e w2 ⟨rfl, hB2⟩; obtain ⟨⟨b0, b1, b2, b3, b4, b5, b6, b7⟩, -⟩ := tcells_at (HRk.out.next hB2).h8) | (go_at_call 62; refine (hgr _ hB2).mono ?_; rintro e w3 ⟨rfl, hB3⟩; have HR4 : Aside (Rk w w3 w.heap.size B8 (B8 + 1) x (.slice ka kn kc) ks) := HRk.out.next hB3; have HB3 : Aside (Below wr.heap.size wr w3) := hB3; obtain ⟨⟨z0, z1, z2, z3, z4, z5, z6, z7⟩, y0, y1, y2, y3, y4, y5, y6, y7⟩ := tcells_at HR4.out.z6; obtain ⟨⟨d0, d1, d2, d3, d4, d5, d6, d7⟩, -⟩ := tcells_at HR4.out.h8))
        obtain ⟨W9, hW9⟩ : ∃ W9, W9 = set8 w3 w.heap.size x (.slice ka kn kc) := ⟨_, rfl⟩
        have hb9 : Below w.heap.size w W9 := by rw [hW9]; exact set8_below (HR4.out.bl) (Nat.le_refl _)
        have hz9 : W9.heap[w.heap.size]? = some (.cells (tcells x (.slice ka kn kc)) 31 (0, 0)) := by rw [hW9]; exact set8_same HR4.out.z6
        have HD9 : Aside (DT W9 w.heap.size W9.heap.size (mk s cs) (.slice ka kn kc)) := by
          have h1 := HDT.out.below (Nat.le_refl _) HB3.out
          have h2 := HF.out
          have h3 : DT W9 (B8 + 1) wr.heap.size (mk s cs) (.slice ka kn kc) := h1.keep fun g hg _ => by rw [hW9]; exact set8_other g (by omega)
          refine h3.mono (by omega) ?_
          rw [hW9, set8_size]
          exact HB3.out.size
        obtain ⟨⟨v0, v1, v2, v3, v4, v5, v6, v7⟩, -⟩ := tcells_at hz9
        change bodyPost _ _ _ _ _ (set8 w3 w.heap.size x (.slice ka kn kc))
        rw [← hW9]
        refine bodyPost_ret (v := .tuple #[tree x (.slice ka kn kc), .int .i64 (P : Int)]) (by simp [results, Tryz.results24, go_sem, v0, v1, v2, v3, v4, v5, v6, v7]) rfl ?_
        rw [HQ.out, if_pos (by trivial)]
        refine ⟨⟨.slice ka kn kc, ?_, HD9.out⟩, hb9⟩
        rw [HN.out, show (l.length : Int) - (r1.length : Int) = (P : Int) by omega]
theorem dread_any : ∀ n : Nat, n ≤ 64 → RdC n
  | 0, _ => fun l i v w h hi hl => by
    by_cases he : i = l.length
    · subst he
      exact dread_end 0 l v w h hl (by omega)
    · exact dread_deep l i v w h (by omega) hl
  | n + 1, hn => fun l i v w h hi hl => by
    by_cases he : i = l.length
    · subst he
      exact dread_end (n + 1) l v w h hl hn
    · obtain ⟨x, hx⟩ : ∃ x, l[i]? = some x := ⟨_, List.getElem?_eq_getElem (by omega)⟩
      cases hc : cls x with
      | none => exact dread_bad n l i x v w h hx hl (by omega) hc
      | some s => exact dread_step n (by omega) (dread_any n (by omega)) l i x v w h hx hl s hc
end Go.Proofs.YtaaokecdmbmgbaaGreatDoor
