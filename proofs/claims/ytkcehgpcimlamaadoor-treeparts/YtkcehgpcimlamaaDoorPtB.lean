/- TreeParts returns true, whatever lists and whatever place are handed in. -/
import Derived.Test.YtkcehgpcimlamaaDoorPtA
namespace Go.Proofs.YtkcehgpcimlamaaDoor
open Go.RowKit
set_option maxRecDepth 100000
set_option linter.unusedSimpArgs false

theorem kidsN_len (l : List Tr.Nd) (hl : l.length ≤ 5000) (at0 : Int) : (kidsN l at0).length ≤ 5000 := by
  by_cases h0 : bhI l at0 = 0
  · unfold kidsN; rw [if_pos h0]; simp
  · have hat : 0 ≤ at0 := by
      apply Int.not_lt.1
      intro h
      exact h0 (bhI_neg (.inl h))
    obtain ⟨p, rfl⟩ : ∃ p : Nat, at0 = p := ⟨at0.toNat, by omega⟩
    obtain ⟨x, n, f1, f2, f3, f4, f5, f6, f7⟩ := part_facts (l := l) (p := p) h0
    have key : ∀ k, k ≤ n → p + 1 + k ≤ Tr.kidAt l p k := by
      intro k
      induction k with
      | zero => intro _; rw [f6]; omega
      | succ k ih => intro h; have := (f7 k (by omega)).1; have := ih (by omega); omega
    have := key n (Nat.le_refl _)
    rw [f3]; simp; omega
theorem bagd_start (w : World) (P : Array Value) : Bagd ((w.alloc (.cells Bg.bag0 55)).alloc (.cells P 3)) w.heap.size P (.slice none 0 0) [] := by
  refine ⟨?_, ?_, own_nil _ _ _ _, fun k u h => by simp at h, fun n k u u' b h => by simp at h⟩
  · rw [Below.heap_alloc _ _ _ (by simp)]
    have := heap_alloc_new w (.cells Bg.bag0 55)
    exact this
  · have := heap_alloc_new (w.alloc (.cells Bg.bag0 55)) (.cells P 3)
    simpa using this

set_option maxHeartbeats 16000000 in
theorem treeParts_any (l ot : List Tr.Nd) (hf : Fits l) (v vo : Value) (z0 : Int) (w : World) (hl : IsNodes w v l) (ho : IsNodes w vo ot) :
    Calls Tryd.prog 5 #[v, vo, .int .i64 z0] w fun e w' => e = .returned (.bool true) ∧ Below w.heap.size w w' := by
  obtain ⟨a, c, rfl⟩ := hl.form
  obtain ⟨a2, c2, rfl⟩ := ho.form
  go_enter Tryd.func5, Tryd.ntmps5
  go_upto_region 2 with (go_at_call 8; refine (works_any _).mono ?_; rintro e w1 ⟨rfl, hB1⟩)
  by_cases h1 : 3000 < l.length
  · have h1' : (3000 : Int) < (l.length : Int) := by omega
    go_wp2_with fail
    go_ret
    exact ⟨rfl, hB1⟩
  have h1' : decide ((3000 : Int) < (l.length : Int)) = false := by simp; omega
  by_cases h2 : 3000 < ot.length
  · have h2' : (3000 : Int) < (ot.length : Int) := by omega
    go_wp2_with fail
    go_ret
    exact ⟨rfl, hB1⟩
  have h2' : decide ((3000 : Int) < (ot.length : Int)) = false := by simp; omega
  have hl3 : l.length ≤ 3000 := by omega
  have hf1 : (3000 < l.length) = False := by simp; omega
  have hf2 : (3000 < ot.length) = False := by simp; omega
  have hl1 := hl.below hB1
  have ho1 := ho.below hB1
  clear h1 h2
  go_upto_region 4 with fail
  go_upto_region 5 with (go_at_call 11; refine (wideNodes_any l (by omega) _ w1 hl1).mono ?_; rintro e w3 ⟨rfl, hW3, hB3⟩)
  have hl3' := hl1.below hB3
  have ho3 := ho1.below hB3
  have hA3 := bt hB1 hB3
  have hg0 := hW3.lt
  generalize w1.heap.size = g0 at hW3 hg0 ⊢
  clear hl1 ho1 hB1 hB3 h1' h2' hf1 hf2
  have hst := bagd_start w3
  have hBst : ∀ o1 o2 : Obj, Below w3.heap.size w3 ((w3.alloc o1).alloc o2) := fun o1 o2 => balloc (balloc (Below.refl _ _) _) _
  go_wp2_with fail
  go_loopg [11] 9 (fun gg t wr => ∃ (i : Nat) (P : Array Value) (v' : Value) (vs : List Value), i + gg = 9 ∧ t = .int .i64 (i : Int) ∧ Aside (vs.length = i) ∧ Aside (∀ j, j < 9 → ∃ z, P[j]? = some (.int .i64 z)) ∧ Bagd wr w3.heap.size P v' vs ∧ Below w3.heap.size w3 wr)
  case atStart =>
    refine ⟨0, _, _, [], by omega, rfl, rfl, ?_, hst _, hBst _ _⟩
    intro j hj
    rcases (show j = 0 ∨ j = 1 ∨ j = 2 ∨ j = 3 ∨ j = 4 ∨ j = 5 ∨ j = 6 ∨ j = 7 ∨ j = 8 by omega) with rfl | rfl | rfl | rfl | rfl | rfl | rfl | rfl | rfl <;> exact ⟨_, rfl⟩
  case round =>
    clear hst hBst
    obtain ⟨i, P, v', vs, hig, rfl, HV, HP, hbg, hB⟩ := hrel
    have hH1 := (Array.getElem?_eq_some_iff.1 hbg.pls).1
    by_cases hi : i < 9
    · have hi' : (i : Int) < 9 := by omega
      have hi0 : (0 : Int) ≤ (i : Int) := by omega
      obtain ⟨z, hz⟩ := HP.out i hi
      have hc : ∀ {W : World}, Bagd W w3.heap.size P v' vs → W.cell? ⟨w3.heap.size + 1, i, none⟩ = some (.int .i64 z) := fun hb => by rw [(block_cells hb.pls).1 i]; exact hz
      have d0 := hc hbg
      have hWr := hW3.below hB
      have hlr := hl3'.below hB
      have hb1 := behind_any l hf.len hf.kids _ z wr hWr.nodes
      have hkl := kidsN_len l (by omega) z
      go_upto_region 11 with (go_at_call 18; refine hb1.mono ?_; rintro e' w5 ⟨rfl, hB5⟩)
      have hbg5 := hbg.below hB5
      have hW5 := hWr.below hB5
      have hl5 := hlr.below hB5
      have hA5 := bt hB hB5
      have d5 := hc hbg5
      have hk1 := kids_any l hf _ z w5 hW5.nodes
      have hz5 := hB5.size
      clear hb1 hB5 hWr hlr d0
      go_upto_region 12 with (go_at_call 19; refine hk1.mono ?_; rintro e' w6 ⟨kv, rfl, hkv, hB6⟩; obtain ⟨ka, kc, hkf⟩ := own_len hkv; subst hkf)
      have hbg6 := hbg5.below hB6
      have hl6 := hl5.below hB6
      have hA6 := bt hA5 hB6
      have d6 := hc hbg6
      have hz6 := hB6.size
      have hr1 := refBehind_any l (by omega) _ z w6 hl6
      have hr2 := refKids_any l (by omega) _ z w6 hl6
      have hneq : ((bhI l z : Int) != (bhI l z : Int)) = false := by simp
      clear hk1 hB6 hbg5 hW5 hl5 hA5 d5
      generalize bhI l z = bz at *
      go_upto_region 14 with (first | (go_at_call 20; refine hr1.mono ?_; rintro e' w' ⟨rfl, hw'⟩; replace hw' := hw'.symm; subst hw') | (go_at_call 22; refine hr2.mono ?_; rintro e' w7 ⟨kv2, rfl, hkv2, hB7⟩; obtain ⟨ka2, kc2, hkf2⟩ := own_len hkv2; subst hkf2; have hkv7 := own_below hkv hB7; have heq := eqInts_same (kidsN l z) (by omega) _ _ w7 (IsInts.own hkv7) (IsInts.own hkv2)) | (go_at_call 21; refine heq.mono ?_; rintro e' w8 ⟨rfl, m, rfl⟩))
      have hB8 : Below w6.heap.size w6 (w7.drewN m) := below_drewN hB7 m
      have hbg8 := hbg6.below hB8
      have hA8 := bt hA6 hB8
      have hkv8 := own_below hkv hB8
      have hz8 := hB8.size
      have hown8 := hbg8.own
      have hvn : v'.ownBlock ≠ some w3.heap.size := fun e => by have := (hown8.lt _ e).1; omega
      have hv9 : vs.length < 300 := by have := HV.out; omega
      have hadd := Bg.addTexts_any w3.heap.size (w3.heap.size + 2) vs.length (w7.drewN m) v' ka (kidsN l z).length kc vs (Bg.bag0.setIfInBounds 1 v') hbg8.blk (by simp [Bg.bag0]) hown8 hv9 (by omega) hvn (by omega)
      clear hr1 hr2 heq hB7 hkv2 hkv7 hneq hbg6 hA6 d6 hl6
      generalize w7.drewN m = w9 at *
      go_wp2_with (go_at_call 23; refine hadd.mono ?_; rintro e' w10 ⟨rfl, gg2, cap2, q1, q2, q3, q4⟩)
      go_roundg (9 - (i + 1))
      case measure => omega
      case rel =>
        refine ⟨i + 1, P, _, _, by omega, by go_num, by show _ = _; rw [List.length_append, HV.out]; rfl, HP, hbg8.add (own_mono hkv8 (by omega)) (by omega) (fun b hb => ?_) q1 q2 q3 q4, ?_⟩
        · have hbw : w5.heap.size ≤ b := (hkv.lt b hb).1
          refine ⟨fun e => ?_, fun k u hu e => ?_⟩
          · have := (hbg.own.lt b e).2; omega
          · obtain ⟨_, _, _, _, _, _, h2, _⟩ := hbg.rows k u hu
            have := (h2.lt b e).2; omega
        · refine ⟨q4.os.trans hA8.os, q4.tape.trans hA8.tape, q4.output.trans hA8.output, Nat.le_trans hA8.size q4.size, fun k hk => (q4.block k (by omega) (by omega) ?_).trans (hA8.block k hk)⟩
          intro e
          have := (hown8.lt k e.symm).1
          omega
    · have hi' : ¬ (i : Int) < 9 := by omega
      have hv9 : 0 < vs.length ∧ vs.length ≤ 300 := by have := HV.out; omega
      have hW14 := hW3.below hB
      have hl14 := hl3'.below hB
      have ho14 := ho3.below hB
      have hA14 := hB
      have hbg14 := hbg
      have hd1 : ∀ W, IsNodes W (.slice (some ⟨g0, 0, none⟩) l.length (l.length + 64)) l → Calls Tryd.prog 24 #[.slice (some ⟨g0, 0, none⟩) l.length (l.length + 64)] W fun e w' => e = .returned (.int .i64 (deepN l : Int)) ∧ Below W.heap.size W w' := fun W h => deep_any l hf _ W h
      have hd2 : ∀ W, IsNodes W (.slice a l.length c) l → Calls Tryd.prog 25 #[.slice a l.length c] W fun e w' => e = .returned (.int .i64 (deepN l : Int)) ∧ Below W.heap.size W w' := fun W h => refDeep_any l (by omega) hf.kids _ W h
      have he1 : ∀ W, IsNodes W (.slice (some ⟨g0, 0, none⟩) l.length (l.length + 64)) l → IsNodes W (.slice a2 ot.length c2) ot → Calls Tryd.prog 26 #[.slice (some ⟨g0, 0, none⟩) l.length (l.length + 64), .slice a2 ot.length c2] W fun e w' => e = .returned (.bool (likes l ot)) ∧ Below W.heap.size W w' := fun W h h' => equal_any l ot hf.len _ _ W h h'
      have he2 : ∀ W, IsNodes W (.slice a l.length c) l → IsNodes W (.slice a2 ot.length c2) ot → Calls Tryd.prog 27 #[.slice a l.length c, .slice a2 ot.length c2] W fun e w' => e = .returned (.bool (likes l ot)) ∧ Below W.heap.size W w' := fun W h h' => refEqual_any l ot hf.len _ _ W h h'
      have he3 : ∀ W, IsNodes W (.slice (some ⟨g0, 0, none⟩) l.length (l.length + 64)) l → IsNodes W (.slice a l.length c) l → Calls Tryd.prog 26 #[.slice (some ⟨g0, 0, none⟩) l.length (l.length + 64), .slice a l.length c] W fun e w' => e = .returned (.bool true) ∧ Below W.heap.size W w' := fun W h h' => by
        have := equal_any l l hf.len _ _ W h h'
        rw [likes_refl] at this
        exact this
      generalize deepN l = dz at *
      generalize likes l ot = lz at *
      have hdz : ((dz : Int) != (dz : Int)) = false := by simp
      have hlz : (lz != lz) = false := by simp
      go_upto_region 17 with (first | (go_at_call 24; refine (hd1 _ hW14.nodes).mono ?_; rintro e' w15 ⟨rfl, hB15⟩; have hW15 := hW14.below hB15; have hl15 := hl14.below hB15; have ho15 := ho14.below hB15; have hA15 := bt hA14 hB15; have hbg15 := hbg14.below hB15) | (go_at_call 25; refine (hd2 _ hl15).mono ?_; rintro e' w16 ⟨rfl, hB16⟩; have hW16 := hW15.below hB16; have hl16 := hl15.below hB16; have ho16 := ho15.below hB16; have hA16 := bt hA15 hB16; have hbg16 := hbg15.below hB16) | (go_at_call 26; refine (he1 _ hW16.nodes ho16).mono ?_; rintro e' w17 ⟨rfl, hB17⟩; have hW17 := hW16.below hB17; have hl17 := hl16.below hB17; have ho17 := ho16.below hB17; have hA17 := bt hA16 hB17; have hbg17 := hbg16.below hB17) | (go_at_call 27; refine (he2 _ hl17 ho17).mono ?_; rintro e' w18 ⟨rfl, hB18⟩; have hW18 := hW17.below hB18; have hl18 := hl17.below hB18; have ho18 := ho17.below hB18; have hA18 := bt hA17 hB18; have hbg18 := hbg17.below hB18) | (go_at_call 26; refine (he3 _ hW18.nodes hl18).mono ?_; rintro e' w19 ⟨rfl, hB19⟩; have hW19 := hW18.below hB19; have hl19 := hl18.below hB19; have ho19 := ho18.below hB19; have hA19 := bt hA18 hB19; have hbg19 := hbg18.below hB19))
      clear hd1 hd2 he1 he2 he3 hdz hlz
      have hap := apart_bagd hbg19 hv9.1 hv9.2
      go_wp2_with (first | (go_at_call 28; refine hap.mono ?_; rintro e' w20 ⟨rfl, hB20⟩; have hA20 := hA19.trans hB20; have hW20 := hW3.below hA20; have hl20 := hl3'.below hA20; have hq := eqNodes_same l hf.len _ _ w20 hW20.nodes hl20) | (go_at_call 14; refine hq.mono ?_; rintro e' w21 ⟨rfl, m, rfl⟩; have hA21 : Below w3.heap.size w3 (w20.drewN m) := below_drewN hA20 m; have hW21 := hW3.below hA21; have hsn := spareNodes_any l (by omega) g0 _ hW21) | (go_at_call 15; refine hsn.mono ?_; rintro e' w22 ⟨rfl, hB22⟩))
      go_ret
      exact ⟨rfl, bt hA3 (bt hA21 hB22)⟩
end Go.Proofs.YtkcehgpcimlamaaDoor
