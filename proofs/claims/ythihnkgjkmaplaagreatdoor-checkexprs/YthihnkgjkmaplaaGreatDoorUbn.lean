/- CheckSolid returns true. -/
import Derived.Test.YthihnkgjkmaplaaGreatDoorUbl
import Derived.Test.YthihnkgjkmaplaaGreatDoorUbm
namespace Go.Proofs.YthihnkgjkmaplaaGreatDoor
open Go.RowKit Ck
open T3.Tp (Ty enc cns met sta)
open Tr (T Nd nm flat flats wf)
set_option maxRecDepth 100000
set_option linter.unusedSimpArgs false
set_option linter.unusedVariables false

theorem stE_of {N : List (List UInt8)} {ts : List Ty} (h : ∀ t ∈ ts, sta t = true) (hl : N.length = ts.length) : StE (envOf N ts) := by
  intro n t hn
  have := look_last N ts hl N.length (Nat.le_refl _) n
  rw [List.take_of_length_le (by simp; omega)] at this
  unfold envOf at hn
  rw [hn] at this
  cases hj : lastAt N N.length n with
  | none => rw [hj] at this; simp at this
  | some j => rw [hj] at this; exact h t (List.mem_of_getElem? this.symm)
theorem statB_enc {t : Ty} (h : sta t = true) (hl : (enc t).length ≤ 64) : T3.statB (enc t) = true := by
  have hc : (enc t).contains 63 = false := by rw [enc_sta, h]; rfl
  have hi : Lib.indexByte (enc t) 63 < 0 := by
    apply Classical.byContradiction
    intro hge
    obtain ⟨o, ho⟩ : ∃ o : Nat, Lib.indexByte (enc t) 63 = o := ⟨(Lib.indexByte (enc t) 63).toNat, by omega⟩
    have := List.mem_of_getElem? (Lib.indexByte_some ho).1
    simp at hc
    exact hc this
  unfold T3.statB
  rw [T3.Tp.chk_enc t hl]
  simp [hi]
/-- A tree without ?: both ways answer the same. -/
theorem solid_same {l : List Nd} {N Th : List (List UInt8)} (hS : l.all stN = true) (hT : ∀ t ∈ Th, solB (S t) = true) {r r' : List (List UInt8)} {er er' at' at'' : Int} (hx : Ex l N Th r er at') (hr : Rd true l N Th r' er' at'') :
    r' = r ∧ er' = er ∧ at'' = at' ∧ ∀ p ∈ r, T3.statB p = true := by
  have key : ∀ (ts : List Ty) (t : T), envB N Th = true → (chkN l).1 = 0 → N.length = ts.length → Th = ts.map enc → wf t → l = flat t → kdT true (envOf N ts) t 0 = ckT (envOf N ts) t 0 ∧ ∀ x, ckT (envOf N ts) t 0 = .ok x → ∀ a ∈ x, sta a = true := fun ts t hb h0 e1 e2 hw he => by
    obtain ⟨t', hw', he', hmay, _⟩ := chk_tree h0
    obtain ⟨ts', e1', e2', e3⟩ := envB_types hb
    obtain rfl : ts' = ts := encs_inj (e2'.symm.trans e2)
    have hst : ∀ u ∈ ts', sta u = true := fun u hu => by
      have h := hT (enc u) (by rw [e2]; exact List.mem_map.2 ⟨u, hu, rfl⟩)
      unfold solB at h
      simp only [Bool.and_eq_true, Bool.not_eq_true', decide_eq_true_eq] at h
      have h1 := h.1
      rw [S_list, enc_sta] at h1
      simpa using h1
    have hm : ∀ x ∈ flat t, Tr.mayB x = true ∧ stN x = true := fun x hx => ⟨hmay x (by rw [he]; exact hx), List.all_eq_true.1 hS x (by rw [he]; exact hx)⟩
    obtain ⟨k1, k2⟩ := kdT_st t (envOf N ts') 0 hw hm (stE_of hst e1)
    obtain ⟨k3, _⟩ := kdT_f t (envOf N ts') 0 (fun x hx => (hm x hx).1) (envOk_of e3 e1)
    rw [k3] at k1 k2
    exact ⟨k1, fun x hx => (k2 x hx).2⟩
  cases hx with
  | arg h =>
    cases hr with
    | arg _ => exact ⟨rfl, rfl, rfl, by simp⟩
    | tree h' => rw [h] at h'; cases h'
    | bad h' => rw [h] at h'; cases h'
    | good h' => rw [h] at h'; cases h'
  | tree h h1 =>
    cases hr with
    | arg h' => rw [h] at h'; cases h'
    | tree _ _ => exact ⟨rfl, rfl, rfl, by simp⟩
    | bad _ h' => exact absurd h' h1
    | good _ h' => exact absurd h' h1
  | bad h h1 ts t h2 h3 h4 h5 q h6 h7 =>
    obtain ⟨k1, k2⟩ := key ts t h h1 h2 h3 h4 h5
    cases hr with
    | arg h' => rw [h] at h'; cases h'
    | tree _ h' => exact absurd h1 h'
    | bad _ _ ts' t' g2 g3 g4 g5 q' g6 =>
      obtain rfl : ts' = ts := encs_inj (g3.symm.trans h3)
      obtain rfl : t' = t := tree_one g4 h4 (g5.symm.trans h5)
      rw [k1, h6] at g6
      cases g6
      exact ⟨rfl, rfl, rfl, by simp⟩
    | good _ _ ts' t' g2 g3 g4 g5 x g6 =>
      obtain rfl : ts' = ts := encs_inj (g3.symm.trans h3)
      obtain rfl : t' = t := tree_one g4 h4 (g5.symm.trans h5)
      rw [k1, h6] at g6
      cases g6
  | good h h1 ts t h2 h3 h4 h5 a h6 h7 h8 =>
    obtain ⟨k1, k2⟩ := key ts t h h1 h2 h3 h4 h5
    cases hr with
    | arg h' => rw [h] at h'; cases h'
    | tree _ h' => exact absurd h1 h'
    | bad _ _ ts' t' g2 g3 g4 g5 q' g6 =>
      obtain rfl : ts' = ts := encs_inj (g3.symm.trans h3)
      obtain rfl : t' = t := tree_one g4 h4 (g5.symm.trans h5)
      rw [k1, h6] at g6
      cases g6
    | good _ _ ts' t' g2 g3 g4 g5 x g6 =>
      obtain rfl : ts' = ts := encs_inj (g3.symm.trans h3)
      obtain rfl : t' = t := tree_one g4 h4 (g5.symm.trans h5)
      rw [k1, h6] at g6
      cases g6
      refine ⟨rfl, rfl, rfl, fun p hp => ?_⟩
      obtain ⟨u, hu, rfl⟩ := List.mem_map.1 hp
      exact statB_enc (k2 a h6 u hu) (h7 u hu)
theorem Ex.len {l : List Nd} {N Th r : List (List UInt8)} {er at' : Int} (h : Ex l N Th r er at') (hl : l.length ≤ 1000) : r.length ≤ 1000 := by
  cases h with
  | arg _ | tree _ _ | bad _ _ _ _ _ _ _ _ _ _ _ => simp
  | good _ _ _ _ _ _ _ _ a _ _ h8 => rw [List.length_map, h8]; exact hl

set_option maxHeartbeats 2000000 in
theorem plain_any (l : List Nd) (hf : Fits l) (hl2 : l.length ≤ 2000) (N Th : List (List UInt8)) (hN : N.length ≤ 100) (hs : ∀ p ∈ N, p.length ≤ maxLen) (v vn vt : Value) (w : World) (hl : IsNodes w v l) (hn : T3.IsTexts w vn N) (ht : T3.IsTexts w vt Th) :
    Calls Tryz.prog 19 #[v, vn, vt] w (RdEnd w true l N Th) := by
  have h := read_any true l hf hl2 N Th hN hs v vn vt w hl hn ht
  clear hl hn ht
  go_enter Tryz.func19, Tryz.ntmps19
  go_wp2_with fail
  refine h.mono ?_
  rintro e w1 ⟨hB, a, n, c, r, er, at', rfl, hr, hn, ht⟩
  have HX : Aside (Rd true l N Th r er at' ∧ n = r.length ∧ T3.IsTexts w1 (.slice a n c) r) := ⟨hr, hn, ht⟩
  clear hr hn ht h
  go_wp2_with fail
  go_ret3
  exact ⟨hB, a, n, c, r, er, at', rfl, HX.out⟩
set_option maxHeartbeats 2000000 in
theorem rexpr_any (l : List Nd) (hf : Fits l) (hl2 : l.length ≤ 2000) (N Th : List (List UInt8)) (hN : N.length ≤ 100) (hs : ∀ p ∈ N, p.length ≤ maxLen) (v vn vt : Value) (w : World) (hl : IsNodes w v l) (hn : T3.IsTexts w vn N) (ht : T3.IsTexts w vt Th) :
    Calls Tryz.prog 10 #[v, vn, vt] w (RdEnd w false l N Th) := by
  have h := read_any false l hf hl2 N Th hN hs v vn vt w hl hn ht
  clear hl hn ht
  go_enter Tryz.func10, Tryz.ntmps10
  go_wp2_with fail
  refine h.mono ?_
  rintro e w1 ⟨hB, a, n, c, r, er, at', rfl, hr, hn, ht⟩
  have HX : Aside (Rd false l N Th r er at' ∧ n = r.length ∧ T3.IsTexts w1 (.slice a n c) r) := ⟨hr, hn, ht⟩
  clear hr hn ht h
  go_wp2_with fail
  go_ret3
  exact ⟨hB, a, n, c, r, er, at', rfl, HX.out⟩

set_option maxHeartbeats 16000000 in
theorem checkSolid_any (l : List Nd) (hf : Fits l) (hft : ∀ x ∈ l, x.t.size ≤ maxLen ∧ x.u.size ≤ maxLen) (N Th : List (List UInt8)) (hs : ∀ p ∈ N, p.length ≤ maxLen) (hsT : ∀ p ∈ Th, p.length ≤ maxLen) (vL vN vT : Value) (w : World) (hl : IsNodes w vL l) (hn : T3.IsTexts w vN N) (ht : T3.IsTexts w vT Th) (hG : HasG w) (hg : 8 ≤ w.heap.size) :
    Calls Tryz.prog 4 #[.agg #[vL, vN, vT]] w fun e w' => e = .returned (.bool true) ∧ Below w.heap.size w w' := by
  obtain ⟨aL, cL, rfl⟩ := hl.form
  obtain ⟨aN, cN, rfl⟩ := txs_form hn
  obtain ⟨aT, cT, rfl⟩ := txs_form ht
  have hbx := CBox.new w (.slice aL l.length cL) (.slice aN N.length cN) (.slice aT Th.length cT) 25
  have hBw : Below w.heap.size w (w.alloc (.cells #[.slice aL l.length cL, .slice aN N.length cN, .slice aT Th.length cT] 25)) := (Below.refl _ _).alloc (Nat.le_refl _) _
  have hlg := caseLong_any l N Th aL aN aT cL cN cT
  have hcx := fun (w : World) hl hn ht hG hg (hN : N.length ≤ 1000) => expr_any l hf N Th hN hs (.slice aL l.length cL) (.slice aN N.length cN) (.slice aT Th.length cT) w hl hn ht hG hg
  have hpx := fun (w : World) hl hn ht (hN : N.length ≤ 100) (hl2 : l.length ≤ 2000) => plain_any l hf hl2 N Th hN hs (.slice aL l.length cL) (.slice aN N.length cN) (.slice aT Th.length cT) w hl hn ht
  have hst := fun (w : World) hl (hl2 : l.length ≤ 2000) => static08_any l (by omega) hft (.slice aL l.length cL) w hl
  go_enter Tryz.func4, Tryz.ntmps4
  go_upto_region 1 with fail
  have hl := hl.below hBw
  have hn := txs_below hn hBw
  have ht := txs_below ht hBw
  have hG := hG.below hBw
  have hg := Nat.le_trans hg hBw.size
  have HBw : Aside (Below w.heap.size w _) := hBw
  clear hBw
  obtain ⟨cb, hcb⟩ : ∃ cb, cb = w.heap.size := ⟨_, rfl⟩
  generalize w.alloc _ = W0 at *
  rw [← hcb] at hbx ⊢
  clear hcb
  go_wp2_with fail
  go_at_call 5
  refine (works_any _ hG hg).mono ?_
  rintro e w1 ⟨rfl, hB1⟩
  obtain ⟨hlt1, p0, p1, p2⟩ := hbx.below hB1
  go_wp2_with fail
  go_at_call 6
  refine (hlg _).mono ?_
  rintro e w2 ⟨rfl, hB2⟩
  have hB := bt hB1 hB2
  clear hB1 hB2 p0 p1 p2 hlt1 hlg
  cases hlb : caseLB l N Th with
  | true =>
    go_wp2_with fail
    go_ret
    exact ⟨rfl, bt HBw.out hB⟩
  | false =>
  obtain ⟨n1, n2, n3⟩ := caseLong_no hlb
  clear hlb
  have hl := hl.below hB
  have hn := txs_below hn hB
  have ht := txs_below ht hB
  have hG := hG.below hB
  have hg := Nat.le_trans hg hB.size
  have hbx := hbx.below hB
  have HB : Aside (Below w.heap.size w w2) := bt HBw.out hB
  clear hB HBw
  have hcx := hcx w2 hl hn ht hG hg (by omega)
  have hst := hst w2 hl (by omega)
  have HPX : Aside (∀ w3, Below w2.heap.size w2 w3 → Calls Tryz.prog 19 #[.slice aL l.length cL, .slice aN N.length cN, .slice aT Th.length cT] w3 (RdEnd w3 true l N Th)) := fun w3 h => hpx w3 (hl.below h) (txs_below hn h) (txs_below ht h) (by omega) (by omega)
  have HCX : Aside (∀ w3, Below w2.heap.size w2 w3 → Calls Tryz.prog 9 #[.slice aL l.length cL, .slice aN N.length cN, .slice aT Th.length cT] w3 (ExEnd w3 l N Th)) := fun w3 h => expr_any l hf N Th (by omega) hs _ _ _ w3 (hl.below h) (txs_below hn h) (txs_below ht h) (hG.below h) (Nat.le_trans hg h.size)
  clear hcx hpx
  obtain ⟨hlt2, d0, d1, d2⟩ := hbx
  go_wp2_with fail
  go_loopg [4] Th.length (fun g t wr => wr = w2 ∧ ∃ k : Nat, k + g = Th.length ∧ t = .int .i64 (k : Int) ∧ Aside (∀ (j : Nat) p, j < k → Th[j]? = some p → solB (S p) = true))
  case atStart => exact ⟨rfl, 0, by omega, rfl, fun j p hj => absurd hj (by omega)⟩
  case round =>
    obtain ⟨rfl, k, hkg, rfl, HK⟩ := hrel
    have hk0 : (0 : Int) ≤ (k : Int) := by omega
    by_cases hk : k < Th.length
    · have hk' : (k : Int) < (Th.length : Int) := by omega
      obtain ⟨p, hp⟩ := getp hk
      obtain ⟨b1, o1, rfl, hc1, hb1, e0⟩ := txs_at ht hp
      replace e0 : wr.cell? ⟨b1, o1 + k, none⟩ = some (.string (S p)) := e0
      have hso := solid_any (S p) (by rw [S_size]; exact hsT p (List.mem_of_getElem? hp))
      have HS : Aside (solB (S p) = true → ∀ (j : Nat) p, j < k + 1 → Th[j]? = some p → solB (S p) = true) := fun h j p' hj hp' => by
        by_cases e : j = k
        · subst e; rw [hp] at hp'; cases hp'; exact h
        · exact HK.out j p' (by omega) hp'
      clear HK hp HPX HCX hst hl hn ht
      generalize S p = sp at *
      cases hb : solB sp with
      | false =>
        rw [hb] at hso
        clear HS hb
        go_wp2_with (go_at_call 17; refine (hso _).mono ?_; rintro e w' ⟨rfl, hw'⟩; replace hw' := hw'.symm; subst hw')
        go_ret
        exact ⟨rfl, HB.out⟩
      | true =>
        rw [hb] at hso
        have HN : Aside (∀ (j : Nat) p, j < k + 1 → Th[j]? = some p → solB (S p) = true) := HS.out hb
        clear HS hb
        go_wp2_with (go_at_call 17; refine (hso _).mono ?_; rintro e w' ⟨rfl, hw'⟩; replace hw' := hw'.symm; subst hw')
        go_roundg (gk - 1)
        case measure => omega
        case rel => exact ⟨rfl, k + 1, by omega, by go_num, HN⟩
    · have hk' : ¬ (k : Int) < (Th.length : Int) := by omega
      have HTT : Aside (∀ p ∈ Th, solB (S p) = true) := fun p hp => by
        obtain ⟨j, hj⟩ := List.getElem?_of_mem hp
        exact HK.out j p (by have := (List.getElem?_eq_some_iff.1 hj).1; omega) hj
      have hbx2 : CBox wr cb (.slice aL l.length cL) (.slice aN N.length cN) (.slice aT Th.length cT) := ⟨hlt2, d0, d1, d2⟩
      clear HK hl hn ht
      go_wp2_with fail
      refine hst.mono ?_
      rintro e w3 ⟨rfl, hB3⟩
      cases hS : l.all stN with
      | false =>
        go_wp2_with fail
        go_ret
        exact ⟨rfl, bt HB.out hB3⟩
      | true =>
      have HSS : Aside (l.all stN = true) := hS
      have hcx := HCX.out w3 hB3
      obtain ⟨g0, g1, g2, g3⟩ := hbx2.below hB3
      clear hS d0 d1 d2 hlt2 hst
      go_wp2_with fail
      refine hcx.mono ?_
      rintro e w4 ⟨hB4, a4, m4, c4, r4, er, at4, rfl, hx4, hm4, ht4, hr4⟩
      have hB34 := bt hB3 hB4
      have hpx := HPX.out w4 hB34
      obtain ⟨g4, g5, g6, g7⟩ := hbx2.below hB34
      have HX4 : Aside (Ex l N Th r4 er at4 ∧ m4 = r4.length) := ⟨hx4, hm4⟩
      clear hcx HCX HPX g0 g1 g2 g3 hr4 hx4 hm4
      go_wp2_with fail
      refine hpx.mono ?_
      rintro e w5 ⟨hB5, a5, m5, c5, r5, er5, at5, rfl, hr5, hm5, ht5⟩
      obtain ⟨x1, x2⟩ := HX4.out
      obtain ⟨rfl, rfl, rfl, hsta⟩ := solid_same HSS.out HTT.out x1 hr5
      have hrl := x1.len (by omega)
      subst x2
      subst hm5
      have ht45 := txs_below ht4 hB5
      have HB5 : Aside (Below w.heap.size w w5) := bt HB.out (bt hB34 hB5)
      have hst2 := fun p (hp : p ∈ r5) => T3.static_any (S p) w5
      have HST : Aside (∀ p ∈ r5, T3.statB p = true) := hsta
      clear hpx HX4 x1 hr5 hbx2 g4 g5 g6 g7 hB3 hB4 hB5 hB34 HB ht4 hsta HSS HTT
      go_wp2_with fail
      go_loopg [11] r5.length (fun g t wr => wr = w5 ∧ ∃ k : Nat, k + g = r5.length ∧ t = .int .i64 (k : Int))
      case atStart => exact ⟨rfl, 0, by omega, rfl⟩
      case round =>
        obtain ⟨rfl, k, hkg, rfl⟩ := hrel
        have hk0 : (0 : Int) ≤ (k : Int) := by omega
        by_cases hk : k < r5.length
        · have hk' : (k : Int) < (r5.length : Int) := by omega
          obtain ⟨p, hp⟩ := getp hk
          obtain ⟨b1, o1, rfl, hc1, hb1, e0⟩ := txs_at ht45 hp
          replace e0 : wr.cell? ⟨b1, o1 + k, none⟩ = some (.string (S p)) := e0
          have hso := T3.static_any (S p) wr
          rw [S_list, HST.out p (List.mem_of_getElem? hp)] at hso
          clear hst2 hp ht5
          generalize S p = sp at *
          go_wp2_with (go_at_call 20; refine hso.mono ?_; rintro e w' ⟨rfl, hw'⟩; replace hw' := hw'.symm; subst hw')
          go_roundg (gk - 1)
          case measure => omega
          case rel => exact ⟨rfl, k + 1, by omega, by go_num⟩
        · have hk' : ¬ (k : Int) < (r5.length : Int) := by omega
          have heq := eqTexts_same r5 (by omega) _ _ wr (show IsTexts wr _ _ from ht45) (show IsTexts wr _ _ from ht5)
          clear hst2
          go_wp2_with fail
          refine heq.mono ?_
          rintro e w6 ⟨rfl, n6, rfl⟩
          go_wp2_with fail
          go_ret
          exact ⟨rfl, below_drewN HB5.out _⟩
end Go.Proofs.YthihnkgjkmaplaaGreatDoor
