/- Insertion, plain: the term of a tree that checks, checks, with the tree's type. Insertion, plain: the term's list is its tree's; how high the tree is; what core's Check answers of the term. Insertion, plain: labels are 1, 2, .. each once; each cast stands where its site says, between consistent types that are not the same. -/
import Derived.Test.YthdlfeejeboboaaGreatDoorUbi
namespace Go.Proofs.YthdlfeejeboboaaGreatDoor
set_option maxRecDepth 100000
set_option linter.unusedVariables false
set_option linter.unusedSimpArgs false
namespace In
open Ck
open T3.Tp (Ty enc cns met sta prc)
open Tr (T Nd nm flat flats cut32 wf)

theorem meets_prc {i : Nat} : ∀ {ks : List (Nat × Ty)} {a u : Ty}, Ck.meets i a ks = .ok u → prc u a = true ∧ ∀ k ∈ ks, prc u k.2 = true
  | [], a, u, h => by rw [Ck.meets] at h; cases h; exact ⟨T3.Tp.prc_refl _, by simp⟩
  | k :: r, a, u, h => by
    rw [Ck.meets] at h
    cases hm : Ck.meetK i a k with
    | error e => rw [hm] at h; cases h
    | ok b =>
      rw [hm] at h
      simp only at h
      unfold Ck.meetK at hm
      split at hm
      · rename_i hc
        split at hm
        · cases hm
          obtain ⟨h1, h2⟩ := meets_prc h
          refine ⟨T3.Tp.prc_trans h1 (T3.Tp.met_l hc), fun q hq => ?_⟩
          rcases List.mem_cons.1 hq with rfl | hq
          · exact T3.Tp.prc_trans h1 (T3.Tp.met_r hc)
          · exact h2 q hq
        · cases hm
      · cases hm
theorem cns_symm' {a b : Ty} (h : prc a b = true) : cns b a = true := by
  have h1 := T3.Tp.prc_cns h
  exact (T3.Tp.cns_symm b a).trans h1
theorem rc_21 {env : Env} {G : List Ty} {L : List (List UInt8)} {x : Nd} {i : Nat} {ks : List (Nat × Ty)} {τ : Ty} (hN : Nod x 21) (hlen : x.kids = (ks.length : Int)) (h : Ck.rule env x i ks = .ok τ) : Rc G L x τ (ks.map Prod.snd) := by
  have hκ : x.kind = 21 := hN.kind
  unfold Ck.rule at h
  rw [hκ] at h
  simp only [Int.reduceEq, if_false, or_self, if_true] at h
  cases hm : Ck.meets i .tq ks with
  | error e => rw [hm] at h; cases h
  | ok u =>
    rw [hm] at h
    simp only at h
    obtain ⟨rfl, hz⟩ := made_sz h
    have hz1 : (enc u).length ≤ 64 := by simp [enc] at hz; omega
    obtain ⟨g1, g2⟩ := enc_good hz1
    have hw : wishes x (.tl u) (ks.map Prod.snd) = each (ks.map Prod.snd).length u 13 := by unfold wishes; rw [hκ]; rfl
    refine ⟨?_, { base x with t := S (enc u) }, ?_, rfl, rfl, ?_, fun j => ?_, fun j => ?_⟩
    · rw [hw]
      refine Wl.each hz1 (fun t ht => ?_)
      obtain ⟨k, hk, rfl⟩ := List.mem_map.1 ht
      exact cns_symm' ((meets_prc hm).2 k hk)
    · unfold nodeP; rw [hκ]; rfl
    · have := hN.kid0
      unfold Co.takes base; simp only; rw [hκ]; simpa [Co.ary] using this
    · unfold Co.ahd base; simp only; rw [hκ]; simp [g2]
    · rw [hw, sets_each _ _ _ _ (Nat.le_refl _), List.drop_length, List.append_nil]
      unfold Co.rul base; simp only
      rw [hκ, g1]
      simp [all_rep, Co.made, hz]
theorem rc_any {env : Env} {G : List Ty} {L : List (List UInt8)} {x : Nd} {κ i : Nat} {ks : List (Nat × Ty)} {τ : Ty} (hN : Nod x κ) (hm : Tr.mayB x = true) (hah : Ck.ahead x = false) (hSc : Sc env L G) (h8 : κ ≠ 8) (h29 : κ ≠ 29) (h64 : ∀ q ∈ ks, (enc q.2).length ≤ 64) (hlen : x.kids = (ks.length : Int)) (h : Ck.rule env x i ks = .ok τ) : Rc G L x τ (ks.map Prod.snd) := by
  have h1 := hN.lo
  have h2 := hN.hi
  have h3 : κ = 1 ∨ κ = 2 ∨ κ = 3 ∨ κ = 4 ∨ κ = 5 ∨ κ = 6 ∨ κ = 7 ∨ κ = 9 ∨ κ = 10 ∨ κ = 11 ∨ κ = 12 ∨ κ = 13 ∨ κ = 14 ∨ κ = 15 ∨ κ = 16 ∨ κ = 17 ∨ κ = 18 ∨ κ = 19 ∨ κ = 20 ∨ κ = 21 ∨ κ = 22 ∨ κ = 23 ∨ κ = 24 ∨ κ = 25 ∨ κ = 26 ∨ κ = 27 ∨ κ = 28 := by omega
  by_cases hl : κ = 1 ∨ κ = 2 ∨ κ = 3 ∨ κ = 4
  · exact rc_leaf hN hm hSc hl hlen h
  by_cases hf : κ = 5 ∨ κ = 6
  · exact rc_fn hN hah hf hlen h
  by_cases ho : κ = 10 ∨ κ = 11 ∨ κ = 12 ∨ κ = 13 ∨ κ = 14 ∨ κ = 15 ∨ κ = 16 ∨ κ = 17
  · exact rc_op hN ho hlen h
  have h5 : κ = 7 ∨ κ = 9 ∨ κ = 18 ∨ κ = 19 ∨ κ = 20 ∨ κ = 21 ∨ κ = 22 ∨ κ = 23 ∨ κ = 24 ∨ κ = 25 ∨ κ = 26 ∨ κ = 27 ∨ κ = 28 := by omega
  rcases h5 with rfl | rfl | rfl | rfl | rfl | rfl | rfl | rfl | rfl | rfl | rfl | rfl | rfl
  · exact rc_7 hN h64 hlen h
  · exact rc_9 hN hlen h
  · exact rc_18 hN hlen h
  · exact rc_19 hN h64 hlen h
  · exact rc_20 hN h64 hlen h
  · exact rc_21 hN hlen h
  · exact rc_22 hN h64 hlen h
  · exact rc_23 hN h64 hlen h
  · exact rc_24 hN h64 hlen h
  · exact rc_25 hN h64 hlen h
  · exact rc_26 hN hlen h
  · exact rc_27 hN h64 hlen h
  · exact rc_28 hN h64 hlen h
theorem tyL_of {G : List Ty} : ∀ {ps : List PT} {tk : List Ty}, Kt (fun _ => G) ps tk → ∀ j, Co.tyL G (tres ps) j = .ok tk
  | [], tk, h, j => by
    have := h.len
    rw [List.length_eq_zero_iff.1 this, tres, Co.tyL]
  | p :: r, tk, h, j => by
    have hl := h.len
    match tk, hl with
    | t :: tr, hl =>
      have h1 := h.ty 0 p t rfl rfl j
      have h2 := tyL_of (ps := r) (tk := tr) ⟨by simpa using hl, fun k q hq => h.wt (k + 1) q (by simpa using hq), fun k q u hq hu => h.ty (k + 1) q u (by simpa using hq) (by simpa using hu)⟩ (j + (flat (tre p)).length)
      rw [tres, Co.tyL, h1]
      simp only [h2]
theorem wfs_of : ∀ {ps : List PT} {Gs : Nat → List Ty} {tk : List Ty}, Kt Gs ps tk → Co.wfsC (tres ps)
  | [], Gs, tk, h => by rw [tres, Co.wfsC]; trivial
  | p :: r, Gs, tk, h => by
    have hl := h.len
    match tk, hl with
    | t :: tr, hl =>
      rw [tres, Co.wfsC]
      exact ⟨(h.wt 0 p rfl).2, wfs_of (ps := r) (Gs := fun k => Gs (k + 1)) (tk := tr) ⟨by simpa using hl, fun k q hq => h.wt (k + 1) q (by simpa using hq), fun k q u hq hu => h.ty (k + 1) q u (by simpa using hq) (by simpa using hu)⟩⟩
theorem sets_len : ∀ (ws : List (Nat × Ty × Int)) (tk : List Ty), (sets tk ws).length = tk.length
  | [], tk => rfl
  | w :: r, tk => by
    have := sets_len r (tk.set w.1 w.2.1)
    unfold sets at this ⊢
    rw [List.foldl_cons, this]
    simp
def gk (x : Nd) (G : List Ty) (j : Nat) : List Ty :=
  if x.kind = 5 then wr x.t :: G else if x.kind = 6 then wr x.t :: .tf (wr x.t) (wr x.u) :: G
  else if x.kind = 8 ∧ j = 1 then wr x.t :: G else G
theorem gk_sc {env : Env} {L : List (List UInt8)} {G : List Ty} (h : Sc env L G) (x : Nd) (j : Nat) (hj : x.kind = 8 → j < 2) : Sc (Ck.inner x j env) (inn x j L) (gk x G j) := by
  unfold Ck.inner inn gk within
  by_cases h5 : x.kind = 5
  · rw [if_pos h5, if_neg (by omega), if_pos (by omega), if_pos h5]
    exact h.cons _ _
  by_cases h6 : x.kind = 6
  · rw [if_neg h5, if_pos h6, if_neg (by omega), if_neg (by omega), if_pos h6, if_neg h5, if_pos h6]
    have h2 := (h.cons (cut32 (nm x)).1 (.tf (wr x.t) (wr x.u))).cons (cut32 (nm x)).2.1 (wr x.t)
    rw [List.append_assoc] at h2
    exact h2
  by_cases h8 : x.kind = 8
  · have := hj h8
    by_cases h1 : j = 1
    · rw [if_neg h5, if_neg h6, if_pos ⟨h8, h1⟩, if_neg (by omega), if_pos (by omega), if_neg h5, if_neg h6, if_pos ⟨h8, h1⟩]
      exact h.cons _ _
    · rw [if_neg h5, if_neg h6, if_neg (by omega), if_pos ⟨h8, by omega⟩, if_neg h5, if_neg h6, if_neg (by omega)]
      exact h
  · rw [if_neg h5, if_neg h6, if_neg (by omega), if_neg (by omega), if_neg (by omega), if_neg h6, if_neg h5, if_neg h6, if_neg (by omega)]
    exact h
mutual
theorem core_T (ts : List Ty) (h64 : ∀ t ∈ ts, (enc t).length ≤ 64) : ∀ (t : T) (env : Env) (i : Nat) (a : List Ty) (L : List (List UInt8)) (G : List Ty) (ss : List Si), wf t → (∀ x ∈ flat t, Tr.mayB x = true) → ckT env t i = .ok a → (∀ (j : Nat) u, a[j]? = some u → ts[i + j]? = some u) → Sc env L G → ss.length + 4 * (flat t).length ≤ 2147483647 →
    Wt (inT [] ts L t i ss).1 ∧ Co.wfC (tre (inT [] ts L t i ss).1) ∧ ∀ j, Co.tyT G (tre (inT [] ts L t i ss).1) j = .ok (ts.getD i .tq)
  | .nd x ks, env, i, a, L, G, ss, hw, hm, h, hts, hSc, hss => by
    have hmx := hm x (by simp [flat])
    obtain ⟨κ, hN⟩ := nod_of hmx
    have hwf := hw
    rw [Tr.wf] at hwf
    rw [ckT] at h
    split at h
    · cases h
    rename_i hah
    have hah : Ck.ahead x = false := by simpa using hah
    cases hL : ckL env x 0 ks (i + 1) with
    | error e => rw [hL] at h; cases h
    | ok rs =>
      rw [hL] at h
      simp only at h
      cases hr : Ck.rule env x i (rs.map fun r => (r.1, r.2.headD .tq)) with
      | error e => rw [hr] at h; cases h
      | ok τ =>
        rw [hr] at h
        simp only at h
        cases h
        have hts0 : ts[i]? = some τ := by have := hts 0 τ rfl; rwa [Nat.add_zero] at this
        have hts1 : ∀ (q : Nat) u, (rs.map Prod.snd).flatten[q]? = some u → ts[i + 1 + q]? = some u := fun q u hq => by
          have := hts (q + 1) u (by simpa using hq)
          rwa [show i + (q + 1) = i + 1 + q by omega] at this
        have hfl : (flat (T.nd x ks)).length = (flats ks).length + 1 := by rw [flat]; simp
        have hkκ := hN.kind
        have h8k : x.kind = 8 → ks.length = 2 := fun e => by
          have h1 := hN.kids (by omega)
          have h2 : Tr.arK (κ : Int) = 2 := by rw [show (κ : Int) = 8 by omega]; decide
          have := hwf.1
          omega
        obtain ⟨hk, h4, h5⟩ := core_L ts h64 ks env x 0 (i + 1) rs L G ss hwf.2 (fun y hy => hm y (by simp [flat, hy])) hL hts1 (fun k hk => gk_sc hSc x _ (fun e => by have := h8k e; omega)) (by omega)
        have e : (rs.map fun r => (r.1, r.2.headD .tq)).map Prod.snd = (plcs ks (i + 1)).map fun p => ts.getD p .tq := by
          rw [List.map_map, ← h4]; rfl
        have e0 : ts.getD i .tq = τ := by rw [List.getD_eq_getElem?_getD, hts0]; rfl
        have hlen : x.kids = ((rs.map fun r => (r.1, r.2.headD .tq)).length : Int) := by rw [List.length_map, h5]; exact hwf.1
        have hd64 : ∀ p, (enc (ts.getD p .tq)).length ≤ 64 := fun p => by
          rw [List.getD_eq_getElem?_getD]
          cases hp : ts[p]? with
          | none => decide
          | some u => exact h64 u (List.mem_of_getElem? hp)
        have hk64 : ∀ q ∈ (rs.map fun r => (r.1, r.2.headD .tq)), (enc q.2).length ≤ 64 := fun q hq => by
          have : q.2 ∈ (rs.map fun r => (r.1, r.2.headD .tq)).map Prod.snd := List.mem_map.2 ⟨q, hq, rfl⟩
          rw [e] at this
          obtain ⟨p, _, hp⟩ := List.mem_map.1 this
          rw [← hp]; exact hd64 p
        have ht64 : ∀ t ∈ ((plcs ks (i + 1)).map fun p => ts.getD p .tq), (enc t).length ≤ 64 := fun t ht => by
          obtain ⟨p, _, hp⟩ := List.mem_map.1 ht
          rw [← hp]; exact hd64 p
        have hsl := sites_L [] ts ks L x 0 (i + 1) ss
        have hwl := wishes_len x τ ((plcs ks (i + 1)).map fun p => ts.getD p .tq)
        rw [List.length_map, plcs_len] at hwl
        have hk0 : Kt (gk x G) (inL [] ts L x 0 ks (i + 1) ss).1 ((plcs ks (i + 1)).map fun p => ts.getD p .tq) := by
          have := hk
          simp only [Nat.zero_add] at this
          exact this
        have fold : Wl ((plcs ks (i + 1)).map fun p => ts.getD p .tq) (wishes x τ ((plcs ks (i + 1)).map fun p => ts.getD p .tq)) → Kt (gk x G) ((wishes x τ ((plcs ks (i + 1)).map fun p => ts.getD p .tq)).foldl (wish x ((plcs ks (i + 1)).map fun p => ts.getD p .tq) (ks.map rootN)) (inL [] ts L x 0 ks (i + 1) ss)).1 (sets ((plcs ks (i + 1)).map fun p => ts.getD p .tq) (wishes x τ ((plcs ks (i + 1)).map fun p => ts.getD p .tq))) := fun hWl =>
          fold_kt ht64 _ _ _ hk0 hWl (fun _ _ => rfl) (by omega)
        rw [inT]
        simp only
        rw [e0]
        generalize hq : (wishes x τ ((plcs ks (i + 1)).map fun p => ts.getD p .tq)).foldl (wish x ((plcs ks (i + 1)).map fun p => ts.getD p .tq) (ks.map rootN)) (inL [] ts L x 0 ks (i + 1) ss) = q at fold
        have hpl : ((plcs ks (i + 1)).map fun p => ts.getD p .tq).length = ks.length := by rw [List.length_map, plcs_len]
        generalize htk : ((plcs ks (i + 1)).map fun p => ts.getD p .tq) = tk at *
        by_cases h8 : x.kind = 8
        · have hk2 := h8k h8
          obtain ⟨q0, q1, hrs⟩ := len2 (l := rs.map fun r => (r.1, r.2.headD .tq)) (by rw [List.length_map, h5]; exact hk2)
          rw [hrs] at hr e
          simp only [List.map_cons, List.map_nil] at e
          unfold Ck.rule at hr
          rw [h8] at hr
          simp only [Int.reduceEq, if_false, or_self, if_true] at hr
          split at hr
          · rename_i hc
            cases hr
            obtain ⟨t1, t2, t3⟩ := wrS_ty (hN.t (by omega))
            have hwi : wishes x q1.2 tk = [(0, wr x.t, 2)] := by unfold wishes; rw [h8]; rfl
            have hK := fold (by rw [hwi, ← e]; exact Wl.one rfl hc t3)
            rw [hwi, ← e] at hK
            simp only [sets, List.foldl_cons, List.foldl_nil, List.set_cons_zero] at hK
            obtain ⟨p0, p1, hp⟩ := len2 (l := q.1) hK.len.symm
            rw [hp] at hK ⊢
            have hnp : nodeP [] L q1.2 x = [{ base x with t := wrS x.t }] := by unfold nodeP; rw [h8]; rfl
            rw [hnp]
            obtain ⟨w1, w2⟩ := hK.wt 0 p0 rfl
            obtain ⟨w3, w4⟩ := hK.wt 1 p1 rfl
            have c1 := hK.ty 0 p0 (wr x.t) rfl rfl
            have c2 := hK.ty 1 p1 q1.2 rfl rfl
            have g0 : gk x G 0 = G := by unfold gk; rw [h8]; rfl
            have g1 : gk x G 1 = wr x.t :: G := by unfold gk; rw [h8]; rfl
            rw [g0] at c1
            rw [g1] at c2
            refine ⟨fun a ah ks' e => by cases e; exact .inl (by simp), ?_, fun j => ?_⟩
            · show Co.wfC (.nd { base x with t := wrS x.t } [tre p0, tre p1])
              rw [Co.wfC]
              refine ⟨?_, ?_, w2, w4, trivial⟩
              · unfold Co.takes base; simp only; rw [hwf.1, hk2, h8]; decide
              · simp [base, hwf.1, hk2]
            · show Co.tyT G (.nd { base x with t := wrS x.t } [tre p0, tre p1]) j = _
              have ha : Co.ahd G.length { base x with t := wrS x.t } j = none := by unfold Co.ahd base; simp only; rw [h8]; rfl
              rw [Co.tyT, ha]
              simp only [base, h8, if_true]
              rw [Co.tyB, c1]
              simp only
              rw [Co.tyC, c2]
          · cases hr
        by_cases h29 : x.kind = 29
        · have hk1 : ks.length = 1 := by
            have h1 := hN.kids (by omega)
            have h2 : Tr.arK (κ : Int) = 1 := by rw [show (κ : Int) = 29 by omega]; decide
            have := hwf.1
            omega
          obtain ⟨q0, hrs⟩ := List.length_eq_one_iff.1 (show (rs.map fun r => (r.1, r.2.headD .tq)).length = 1 by rw [List.length_map, h5]; exact hk1)
          rw [hrs] at hr e
          simp only [List.map_cons, List.map_nil] at e
          unfold Ck.rule at hr
          rw [h29] at hr
          simp only [Int.reduceEq, if_false, or_self, if_true] at hr
          split at hr
          · rename_i hc
            cases hr
            have t3 := (wr_typ (hN.a (by omega))).2
            have hwi : wishes x (wr x.t) tk = [(0, wr x.t, 16)] := by unfold wishes; rw [h29]; rfl
            have hK := fold (by rw [hwi, ← e]; exact Wl.one rfl hc t3)
            rw [hwi, ← e] at hK
            simp only [sets, List.foldl_cons, List.foldl_nil, List.set_cons_zero] at hK
            obtain ⟨p0, hp⟩ := List.length_eq_one_iff.1 (show q.1.length = 1 from hK.len.symm)
            rw [hp] at hK ⊢
            have hnp : nodeP [] L (wr x.t) x = [] := by unfold nodeP; rw [if_pos h29]
            rw [hnp]
            obtain ⟨w1, w2⟩ := hK.wt 0 p0 rfl
            have c1 := hK.ty 0 p0 (wr x.t) rfl rfl
            have g0 : gk x G 0 = G := by unfold gk; rw [h29]; rfl
            rw [g0] at c1
            exact ⟨fun a ah ks' e => by cases e; exact .inr rfl, w2, c1⟩
          · cases hr
        have hrc := rc_any (G := G) (L := L) hN hmx hah hSc (by omega) (by omega) hk64 hlen hr
        rw [e] at hrc
        obtain ⟨wl, y, y1, y2, y3, y4, y5, y6⟩ := hrc
        have hK := fold wl
        have hgy : ∀ k, gk x G k = Co.inn y G := fun k => by
          unfold gk Co.inn
          rw [y3]
          by_cases k5 : x.kind = 5 ∨ x.kind = 6
          · have ey : y = { base x with t := wrS x.t, u := wrS x.u } := by
              unfold nodeP at y1
              rw [if_neg (by omega), if_neg (by omega), if_neg (by omega), if_neg (by omega), if_pos k5] at y1
              simpa using y1.symm
            have t1 := (wrS_ty (hN.t (by omega))).1
            have u1 := (wrS_ty (hN.u (by omega))).1
            rw [ey]
            simp only [t1, u1]
            rcases k5 with k5 | k5 <;> simp [k5]
          · rw [if_neg (by omega), if_neg (by omega), if_neg (by omega), if_neg (by omega), if_neg (by omega)]
        have hK2 : Kt (fun _ => Co.inn y G) q.1 (sets tk (wishes x τ tk)) := ⟨hK.len, hK.wt, fun k p u hp hu j => by rw [← hgy k]; exact hK.ty k p u hp hu j⟩
        rw [y1]
        refine ⟨fun a ah ks' e => by cases e; exact .inl (by simp), ?_, fun j => ?_⟩
        · show Co.wfC (.nd y (tres q.1))
          rw [Co.wfC]
          refine ⟨y4, ?_, wfs_of hK⟩
          have hl := hK.len
          rw [sets_len] at hl
          rw [y2, hwf.1, tres_len, ← hl, hpl]
        · show Co.tyT G (.nd y (tres q.1)) j = _
          rw [Co.tyT, y5 j]
          simp only
          rw [if_neg (by omega), tyL_of hK2]
          simp only
          exact y6 j
theorem core_L (ts : List Ty) (h64 : ∀ t ∈ ts, (enc t).length ≤ 64) : ∀ (ks : List T) (env : Env) (x : Nd) (j i : Nat) (rs : List (Nat × List Ty)) (L : List (List UInt8)) (G : List Ty) (ss : List Si), Tr.wfs ks → (∀ y ∈ flats ks, Tr.mayB y = true) → ckL env x j ks i = .ok rs → (∀ (q : Nat) u, (rs.map Prod.snd).flatten[q]? = some u → ts[i + q]? = some u) → (∀ k, k < ks.length → Sc (Ck.inner x (j + k) env) (inn x (j + k) L) (gk x G (j + k))) → ss.length + 4 * (flats ks).length ≤ 2147483647 →
    Kt (fun k => gk x G (j + k)) (inL [] ts L x j ks i ss).1 ((plcs ks i).map fun p => ts.getD p .tq) ∧ rs.map (fun r => r.2.headD .tq) = (plcs ks i).map (fun p => ts.getD p .tq) ∧ rs.length = ks.length
  | [], env, x, j, i, rs, L, G, ss, hw, hm, h, hts, hS, hss => by
    rw [ckL] at h
    cases h
    rw [inL]
    exact ⟨⟨by simp [plcs], fun k p hp => by simp at hp, fun k p t hp => by simp at hp⟩, by simp [plcs], rfl⟩
  | t :: r, env, x, j, i, rs, L, G, ss, hw, hm, h, hts, hS, hss => by
    rw [Tr.wfs] at hw
    rw [ckL] at h
    cases hT : ckT (Ck.inner x j env) t i with
    | error e => rw [hT] at h; cases h
    | ok a =>
      rw [hT] at h
      simp only at h
      cases hL : ckL env x (j + 1) r (i + (flat t).length) with
      | error e => rw [hL] at h; cases h
      | ok b =>
        rw [hL] at h
        simp only at h
        cases h
        have hal : a.length = (flat t).length := Ck.len_T t _ _ a hT
        have hpos := Tr.flat_pos t
        have hta : ∀ (q : Nat) u, a[q]? = some u → ts[i + q]? = some u := fun q u hq => hts q u (by
          simp only [List.map_cons, List.flatten_cons]
          rw [List.getElem?_append_left (List.getElem?_eq_some_iff.1 hq).1]; exact hq)
        have htb : ∀ (q : Nat) u, (b.map Prod.snd).flatten[q]? = some u → ts[i + (flat t).length + q]? = some u := fun q u hq => by
          have := hts (a.length + q) u (by
            simp only [List.map_cons, List.flatten_cons]
            rw [List.getElem?_append_right (by omega), show a.length + q - a.length = q by omega]; exact hq)
          rwa [hal, ← Nat.add_assoc] at this
        simp only [flats, List.length_append] at hss
        have hS0 := hS 0 (by simp)
        rw [Nat.add_zero] at hS0
        obtain ⟨g1, g2, g3⟩ := core_T ts h64 t (Ck.inner x j env) i a (inn x j L) (gk x G j) ss hw.1 (fun y hy => hm y (by simp [flats, hy])) hT hta hS0 (by omega)
        have hst := sites_T [] ts t (inn x j L) i ss
        obtain ⟨k1, k2, k3⟩ := core_L ts h64 r env x (j + 1) (i + (flat t).length) b L G (inT [] ts (inn x j L) t i ss).2 hw.2 (fun y hy => hm y (by simp [flats, hy])) hL htb (fun k hk => by have := hS (k + 1) (by simp; omega); rwa [show j + (k + 1) = j + 1 + k by omega] at this) (by omega)
        have hh := head_of (by omega) hta
        rw [inL, plcs_cons]
        simp only [List.map_cons]
        refine ⟨⟨by have := k1.len; simpa using this, fun k p hp => ?_, fun k p u hp hu jj => ?_⟩, by rw [k2, ← hh], by simp [k3]⟩
        · cases k with
          | zero => simp at hp; subst hp; exact ⟨g1, g2⟩
          | succ k => exact k1.wt k p (by simpa using hp)
        · cases k with
          | zero =>
            simp at hp hu
            subst hp hu
            have := g3 jj
            rw [Nat.add_zero]
            simpa [List.getD_eq_getElem?_getD] using this
          | succ k =>
            have := k1.ty k p u (by simpa using hp) (by simpa using hu) jj
            rwa [show j + 1 + k = j + (k + 1) by omega] at this
end
end In
end Go.Proofs.YthdlfeejeboboaaGreatDoor
namespace Go.Proofs.YthdlfeejeboboaaGreatDoor
set_option maxRecDepth 100000
set_option linter.unusedVariables false
set_option linter.unusedSimpArgs false
namespace In
open Ck
open T3.Tp (Ty enc cns met sta prc)
open Tr (T Nd nm flat flats cut32 wf high highs)

theorem ite_pw {c : Prop} [Decidable c] {a b : List (Nat × Ty × Int)} (h : a.Pairwise fun u v => u.1 ≠ v.1) (k : b.Pairwise fun u v => u.1 ≠ v.1) : (if c then a else b).Pairwise fun u v => u.1 ≠ v.1 := by split <;> assumption
theorem each_pw (n : Nat) (t : Ty) (r : Int) : (each n t r).Pairwise fun u v => u.1 ≠ v.1 := by
  unfold In.each
  rw [List.pairwise_map]
  exact List.nodup_range.imp fun h => h
theorem wishes_pw (x : Nd) (τ : Ty) (tk : List Ty) : (wishes x τ tk).Pairwise fun u v => u.1 ≠ v.1 := by
  unfold wishes
  (repeat' (first | exact each_pw _ _ _ | (refine ite_pw ?_ ?_))) <;> simp
theorem fold_form (x : Nd) (tk : List Ty) (kx : List Nd) : ∀ (ws : List (Nat × Ty × Int)) (st : List PT × List Si), (ws.Pairwise fun u v => u.1 ≠ v.1) → ∀ (k : Nat) p', (ws.foldl (wish x tk kx) st).1[k]? = some p' → ∃ p, st.1[k]? = some p ∧ (p' = p ∨ ((∃ w ∈ ws, w.1 = k) ∧ ∃ c, p' = lay c p))
  | [], st, _, k, p', h => ⟨p', h, .inl rfl⟩
  | w :: r, st, hp, k, p', h => by
    rw [List.pairwise_cons] at hp
    rw [List.foldl_cons] at h
    obtain ⟨p1, h1, h2⟩ := fold_form x tk kx r (wish x tk kx st w) hp.2 k p' h
    have hw : ∃ p, st.1[k]? = some p ∧ (p1 = p ∨ (w.1 = k ∧ ∃ c, p1 = lay c p)) := by
      unfold wish at h1
      split at h1
      · exact ⟨p1, h1, .inl rfl⟩
      · simp only [List.getElem?_modify] at h1
        cases hq : st.1[k]? with
        | none => rw [hq] at h1; simp at h1
        | some q =>
          rw [hq] at h1
          simp only [Option.map_eq_map, Option.map_some, Option.some.injEq] at h1
          split at h1
          · rename_i e
            exact ⟨q, rfl, .inr ⟨e, _, h1.symm⟩⟩
          · exact ⟨q, rfl, .inl h1.symm⟩
    obtain ⟨p, h3, h4⟩ := hw
    refine ⟨p, h3, ?_⟩
    rcases h2 with rfl | ⟨⟨v, hv, rfl⟩, c, rfl⟩
    · rcases h4 with rfl | ⟨e, c, rfl⟩
      · exact .inl rfl
      · exact .inr ⟨⟨w, by simp, e⟩, c, rfl⟩
    · rcases h4 with rfl | ⟨e, c', rfl⟩
      · exact .inr ⟨⟨v, by simp [hv], rfl⟩, c, rfl⟩
      · exact absurd e (hp.1 v hv)
structure St2 (p : PT) (h : Nat) : Prop where
  wt : Wt p
  fl : flat (tre p) = term p
  hi : high (tre p) ≤ h
theorem St2.lay {p : PT} {h : Nat} (s : St2 p h) (c : Nd) : St2 (lay c p) (h + 1) := by
  refine ⟨Wt.lay, ?_, ?_⟩
  · rw [tre_lay c p s.wt, flat, flats, flats, s.fl, term_lay]; simp
  · rw [tre_lay c p s.wt, high, highs, highs]; have := s.hi; omega
theorem tres_all : ∀ {ps : List PT} {h : Nat}, (∀ (k : Nat) p, ps[k]? = some p → St2 p h) → flats (tres ps) = terms ps ∧ highs (tres ps) ≤ h
  | [], h, _ => by simp [tres, flats, terms, highs]
  | p :: r, h, hs => by
    have h0 := hs 0 p rfl
    obtain ⟨h1, h2⟩ := tres_all (ps := r) (h := h) (fun k q hq => hs (k + 1) q (by simpa using hq))
    rw [tres, flats, terms, highs, h0.fl, h1]
    exact ⟨rfl, by have := h0.hi; omega⟩
mutual
theorem str_T (N : List (List UInt8)) (ts : List Ty) : ∀ (t : T) (L : List (List UInt8)) (i : Nat) (ss : List Si), wf t → (∀ x ∈ flat t, Tr.mayB x = true) → St2 (inT N ts L t i ss).1 (2 * high t)
  | .nd x ks, L, i, ss, hw, hm => by
    obtain ⟨κ, hN⟩ := nod_of (hm x (by simp [flat]))
    have hwf := hw
    rw [Tr.wf] at hwf
    have hL := str_L N ts ks L x 0 (i + 1) ss hwf.2 (fun y hy => hm y (by simp [flat, hy]))
    rw [inT]
    simp only
    have hform := fold_form x ((plcs ks (i + 1)).map fun p => ts.getD p .tq) (ks.map rootN) (wishes x (ts.getD i .tq) ((plcs ks (i + 1)).map fun p => ts.getD p .tq)) (inL N ts L x 0 ks (i + 1) ss) (wishes_pw _ _ _)
    have hsz := fold_size x ((plcs ks (i + 1)).map fun p => ts.getD p .tq) (ks.map rootN) (wishes x (ts.getD i .tq) ((plcs ks (i + 1)).map fun p => ts.getD p .tq)) (inL N ts L x 0 ks (i + 1) ss)
    generalize hq : (wishes x (ts.getD i .tq) ((plcs ks (i + 1)).map fun p => ts.getD p .tq)).foldl (wish x ((plcs ks (i + 1)).map fun p => ts.getD p .tq) (ks.map rootN)) (inL N ts L x 0 ks (i + 1) ss) = q at hform
    have hall : ∀ (k : Nat) p, q.1[k]? = some p → St2 p (2 * highs ks + 1) := fun k p' hp => by
      obtain ⟨p, h1, h2⟩ := hform k p' hp
      have s := hL k p h1
      rcases h2 with rfl | ⟨_, c, rfl⟩
      · exact ⟨s.wt, s.fl, by have := s.hi; omega⟩
      · exact s.lay c
    obtain ⟨g1, g2⟩ := tres_all hall
    have hlen : q.1.length = ks.length := by
      have e : ∀ (ws : List (Nat × Ty × Int)) (st : List PT × List Si), (ws.foldl (wish x ((plcs ks (i + 1)).map fun p => ts.getD p .tq) (ks.map rootN)) st).1.length = st.1.length := by
        intro ws
        induction ws with
        | nil => intro st; rfl
        | cons w r ih =>
          intro st
          rw [List.foldl_cons, ih]
          unfold wish
          split <;> simp
      rw [← hq, e, inL_len]
    have hwt : nodeP N L (ts.getD i .tq) x ≠ [] ∨ q.1.length = 1 := by
      by_cases h29 : x.kind = 29
      · right
        have h1 := hN.kids (by have := hN.kind; omega)
        have h2 : Tr.arK (κ : Int) = 1 := by rw [show (κ : Int) = 29 by have := hN.kind; omega]; decide
        have := hwf.1
        omega
      · left
        unfold nodeP
        rw [if_neg h29]
        simp
    have hnl := nodeP_len N L (ts.getD i .tq) x
    refine ⟨fun a ah ks' e => by cases e; exact hwt, ?_, ?_⟩
    · rw [tre, term, flat_wrap _ _ (by rw [tres_len]; exact hwt), g1]
    · rw [tre, high]
      match hn : nodeP N L (ts.getD i .tq) x, hnl with
      | [], _ =>
        rw [hn] at hwt
        simp at hwt
        obtain ⟨p, hp⟩ := List.length_eq_one_iff.1 hwt
        rw [hp] at g2 ⊢
        simp only [tres, wrap, highs] at g2 ⊢
        omega
      | [y], _ =>
        rw [wrap, high]
        omega
theorem str_L (N : List (List UInt8)) (ts : List Ty) : ∀ (ks : List T) (L : List (List UInt8)) (x : Nd) (j i : Nat) (ss : List Si), Tr.wfs ks → (∀ y ∈ flats ks, Tr.mayB y = true) → ∀ (k : Nat) p, (inL N ts L x j ks i ss).1[k]? = some p → St2 p (2 * highs ks)
  | [], L, x, j, i, ss, hw, hm, k, p, h => by rw [inL] at h; simp at h
  | t :: r, L, x, j, i, ss, hw, hm, k, p, h => by
    rw [Tr.wfs] at hw
    rw [inL] at h
    simp only at h
    rw [highs]
    cases k with
    | zero =>
      simp at h
      subst h
      have s := str_T N ts t (inn x j L) i ss hw.1 (fun y hy => hm y (by simp [flats, hy]))
      exact ⟨s.wt, s.fl, by have := s.hi; omega⟩
    | succ k =>
      have s := str_L N ts r L x (j + 1) (i + (flat t).length) (inT N ts (inn x j L) t i ss).2 hw.2 (fun y hy => hm y (by simp [flats, hy])) k p (by simpa using h)
      exact ⟨s.wt, s.fl, by have := s.hi; omega⟩
end
theorem core_check {t : T} {a : List Ty} {τ : Ty} (hw : wf t) (hm : ∀ x ∈ flat t, Tr.mayB x = true) (hh : high t ≤ 64) (hl : (flat t).length ≤ 2000) (h64 : ∀ u ∈ a, (enc u).length ≤ 64) (h : ckT [] t 0 = .ok a) (hτ : a[0]? = some τ) : Co.check (term (inT [] a [] t 0 []).1) = .ok τ := by
  obtain ⟨_, c2, c3⟩ := core_T a h64 t [] 0 a [] [] [] hw hm h (fun j u hu => by rw [Nat.zero_add]; exact hu) Sc.nil (by simp; omega)
  have s := str_T [] a t [] 0 [] hw hm
  obtain ⟨_, _, z3⟩ := size_T [] a t [] 0 []
  have z5 := sites_T [] a t [] 0 []
  have e0 : a.getD 0 .tq = τ := by rw [List.getD_eq_getElem?_getD, hτ]; rfl
  unfold Co.check
  rw [if_neg (by simp at z3 z5; omega), ← s.fl, Co.shape_flat c2 (by have := s.hi; omega)]
  simp only
  rw [c3 0, e0]
end In
end Go.Proofs.YthdlfeejeboboaaGreatDoor
namespace Go.Proofs.YthdlfeejeboboaaGreatDoor
set_option maxRecDepth 100000
set_option linter.unusedVariables false
set_option linter.unusedSimpArgs false
namespace In
open Ck
open T3.Tp (Ty enc cns met sta prc)
open Tr (T Nd nm flat flats cut32 wf high highs)

def lab (M : List Nd) : List Int := (M.filter fun y => decide (y.kind = 30)).map (·.n)
def upTo (lo hi : Nat) : List Int := (List.range (hi - lo)).map fun k => ((lo + k + 1 : Nat) : Int)
theorem lab_app (a b : List Nd) : lab (a ++ b) = lab a ++ lab b := by simp [lab]
theorem upTo_app {a b c : Nat} (h : a ≤ b) (k : b ≤ c) : upTo a c = upTo a b ++ upTo b c := by
  unfold upTo
  rw [show c - a = (b - a) + (c - b) by omega, List.range_add, List.map_append, List.map_map]
  congr 1
  apply List.map_congr_left
  intro k _
  simp only [Function.comp]
  congr 1
  omega
theorem upTo_one (a : Nat) : upTo a (a + 1) = [((a + 1 : Nat) : Int)] := by
  unfold upTo
  rw [show a + 1 - a = 1 by omega]
  simp
def CastOk (S : List Si) (x : Nd) : Prop := x.kind = 30 → ∃ (k : Nat) (f t : Ty) (r : Int), x.n = ((k + 1 : Nat) : Int) ∧ S[k]? = some ⟨r, x.ln, x.co⟩ ∧ x.t = Go.Proofs.YthdlfeejeboboaaGreatDoor.S (enc f) ∧ x.u = Go.Proofs.YthdlfeejeboboaaGreatDoor.S (enc t) ∧ f ≠ t ∧ cns f t = true ∧ (enc f).length ≤ 64 ∧ (enc t).length ≤ 64
theorem CastOk.more {S : List Si} {x : Nd} (h : CastOk S x) (T : List Si) : CastOk (S ++ T) x := fun hk => by
  obtain ⟨k, f, t, r, h1, h2, h3⟩ := h hk
  exact ⟨k, f, t, r, h1, by rw [List.getElem?_append_left (List.getElem?_eq_some_iff.1 h2).1]; exact h2, h3⟩
theorem lab_mod (c : Nd) (hc : c.kind = 30) : ∀ (ks : List PT) (k : Nat), k < ks.length → (lab (terms (ks.modify k (lay c)))).Perm (lab (terms ks) ++ [c.n])
  | [], k, h => by simp at h
  | p :: r, 0, h => by
    rw [List.modify_zero_cons, terms, terms, term_lay, List.cons_append]
    have e : lab (c :: (term p ++ terms r)) = c.n :: lab (term p ++ terms r) := by simp [lab, hc]
    rw [e]
    exact (List.perm_append_singleton _ _).symm
  | p :: r, k + 1, h => by
    rw [List.modify_succ_cons, terms, terms, lab_app, lab_app, List.append_assoc]
    exact (lab_mod c hc r k (by simpa using h)).append_left _
theorem mem_mod {c x : Nd} : ∀ {ks : List PT} {k : Nat}, x ∈ terms (ks.modify k (lay c)) → x = c ∨ x ∈ terms ks
  | [], k, h => by simp [terms] at h
  | p :: r, 0, h => by
    rw [List.modify_zero_cons, terms, term_lay] at h
    rw [terms]
    simp at h ⊢
    rcases h with h | h | h
    · exact .inl h
    · exact .inr (.inl h)
    · exact .inr (.inr h)
  | p :: r, k + 1, h => by
    rw [List.modify_succ_cons, terms] at h
    rw [terms]
    simp at h ⊢
    rcases h with h | h
    · exact .inr (.inl h)
    · rcases mem_mod h with h | h
      · exact .inl h
      · exact .inr (.inr h)
structure Lb (M : List Nd) (s0 : List Si) (S : List Si) : Prop where
  ext : ∃ T, S = s0 ++ T
  perm : (lab M).Perm (upTo s0.length S.length)
  ok : ∀ x ∈ M, CastOk S x
theorem fold_lb {x : Nd} {kx : List Nd} {tk : List Ty} (h64 : ∀ t ∈ tk, (enc t).length ≤ 64) {s0 : List Si} : ∀ (ws : List (Nat × Ty × Int)) (st : List PT × List Si), Wl tk ws → tk.length = st.1.length → Lb (terms st.1) s0 st.2 → Lb (terms (ws.foldl (wish x tk kx) st).1) s0 (ws.foldl (wish x tk kx) st).2
  | [], st, _, _, h => h
  | w :: r, st, hw, hl, h => by
    rw [List.foldl_cons]
    obtain ⟨t, e1, e2, e3⟩ := hw.ok w (by simp)
    have e0 : tk.getD w.1 .tq = t := by rw [List.getD_eq_getElem?_getD, e1]; rfl
    have hap := hw.ap
    rw [List.pairwise_cons] at hap
    have hkl : w.1 < st.1.length := by rw [← hl]; exact (List.getElem?_eq_some_iff.1 e1).1
    refine fold_lb (kx := kx) h64 r _ ⟨hap.2, fun v hv => hw.ok v (by simp [hv])⟩ ?_ ?_
    · unfold wish
      split
      · exact hl
      · simpa using hl
    · unfold wish
      rw [e0]
      by_cases e : t = w.2.1
      · rw [if_pos e]; exact h
      · rw [if_neg e]
        obtain ⟨T, hT⟩ := h.ext
        have hle : s0.length ≤ st.2.length := by rw [hT]; simp
        refine ⟨⟨T ++ [⟨w.2.2, (placeN x kx w).1, (placeN x kx w).2⟩], by simp [hT]⟩, ?_, fun y hy => ?_⟩
        · simp only [List.length_append, List.length_singleton]
          rw [upTo_app hle (Nat.le_succ _), upTo_one]
          refine (lab_mod _ rfl _ _ hkl).trans ?_
          exact h.perm.append_right _
        · rcases mem_mod hy with rfl | hy
          · intro _
            exact ⟨st.2.length, t, w.2.1, w.2.2, rfl, by simp [castN], rfl, rfl, e, e2, h64 t (List.mem_of_getElem? e1), e3⟩
          · exact (h.ok y hy).more _
theorem node_wl {env : Env} {L : List (List UInt8)} {G : List Ty} {x : Nd} {κ i : Nat} {ks : List (Nat × Ty)} {τ : Ty} (hN : Nod x κ) (hm : Tr.mayB x = true) (hah : Ck.ahead x = false) (hSc : Sc env L G) (h64 : ∀ q ∈ ks, (enc q.2).length ≤ 64) (hlen : x.kids = (ks.length : Int)) (h : Ck.rule env x i ks = .ok τ) : Wl (ks.map Prod.snd) (wishes x τ (ks.map Prod.snd)) := by
  have hκ := hN.kind
  by_cases h8 : x.kind = 8
  · have h1 := hN.kids (by omega)
    have h2 : Tr.arK (κ : Int) = 2 := by rw [show (κ : Int) = 8 by omega]; decide
    obtain ⟨q0, q1, rfl⟩ := len2 (l := ks) (by omega)
    unfold Ck.rule at h
    rw [h8] at h
    simp only [Int.reduceEq, if_false, or_self, if_true] at h
    split at h
    · rename_i hc
      have hwi : wishes x τ ([q0, q1].map Prod.snd) = [(0, wr x.t, 2)] := by unfold wishes; rw [h8]; rfl
      rw [hwi]
      exact Wl.one rfl hc (wrS_ty (hN.t (by omega))).2.2
    · cases h
  by_cases h29 : x.kind = 29
  · have h1 := hN.kids (by omega)
    have h2 : Tr.arK (κ : Int) = 1 := by rw [show (κ : Int) = 29 by omega]; decide
    obtain ⟨q0, rfl⟩ := List.length_eq_one_iff.1 (show ks.length = 1 by omega)
    unfold Ck.rule at h
    rw [h29] at h
    simp only [Int.reduceEq, if_false, or_self, if_true] at h
    split at h
    · rename_i hc
      have hwi : wishes x τ ([q0].map Prod.snd) = [(0, wr x.t, 16)] := by unfold wishes; rw [h29]; rfl
      rw [hwi]
      exact Wl.one rfl hc (wr_typ (hN.a (by omega))).2
    · cases h
  exact (rc_any (G := G) (L := L) hN hm hah hSc (by omega) (by omega) h64 hlen h).wl
theorem Lb.app {a b : List Nd} {s0 s1 s2 : List Si} (h : Lb a s0 s1) (k : Lb b s1 s2) : Lb (a ++ b) s0 s2 := by
  obtain ⟨T1, h1⟩ := h.ext
  obtain ⟨T2, h2⟩ := k.ext
  refine ⟨⟨T1 ++ T2, by rw [h2, h1, List.append_assoc]⟩, ?_, fun x hx => ?_⟩
  · rw [lab_app, upTo_app (b := s1.length) (by rw [h1]; simp) (by rw [h2]; simp)]
    exact h.perm.append k.perm
  · rcases List.mem_append.1 hx with hx | hx
    · rw [h2]; exact (h.ok x hx).more T2
    · exact k.ok x hx
theorem upTo_none (a : Nat) : upTo a a = [] := by simp [upTo]
mutual
theorem lb_T (ts : List Ty) (h64 : ∀ t ∈ ts, (enc t).length ≤ 64) : ∀ (t : T) (env : Env) (i : Nat) (a : List Ty) (L : List (List UInt8)) (G : List Ty) (ss : List Si), wf t → (∀ x ∈ flat t, Tr.mayB x = true) → ckT env t i = .ok a → (∀ (j : Nat) u, a[j]? = some u → ts[i + j]? = some u) → Sc env L G → Lb (term (inT [] ts L t i ss).1) ss (inT [] ts L t i ss).2
  | .nd x ks, env, i, a, L, G, ss, hw, hm, h, hts, hSc => by
    have hmx := hm x (by simp [flat])
    obtain ⟨κ, hN⟩ := nod_of hmx
    have hwf := hw
    rw [Tr.wf] at hwf
    rw [ckT] at h
    split at h
    · cases h
    rename_i hah
    have hah : Ck.ahead x = false := by simpa using hah
    cases hL : ckL env x 0 ks (i + 1) with
    | error e => rw [hL] at h; cases h
    | ok rs =>
      rw [hL] at h
      simp only at h
      cases hr : Ck.rule env x i (rs.map fun r => (r.1, r.2.headD .tq)) with
      | error e => rw [hr] at h; cases h
      | ok τ =>
        rw [hr] at h
        simp only at h
        cases h
        have hts0 : ts[i]? = some τ := by have := hts 0 τ rfl; rwa [Nat.add_zero] at this
        have hts1 : ∀ (q : Nat) u, (rs.map Prod.snd).flatten[q]? = some u → ts[i + 1 + q]? = some u := fun q u hq => by
          have := hts (q + 1) u (by simpa using hq)
          rwa [show i + (q + 1) = i + 1 + q by omega] at this
        have hkκ := hN.kind
        have h8k : x.kind = 8 → ks.length = 2 := fun e => by
          have h1 := hN.kids (by omega)
          have h2 : Tr.arK (κ : Int) = 2 := by rw [show (κ : Int) = 8 by omega]; decide
          have := hwf.1
          omega
        obtain ⟨hk, h4, h5⟩ := lb_L ts h64 ks env x 0 (i + 1) rs L G ss hwf.2 (fun y hy => hm y (by simp [flat, hy])) hL hts1 (fun k hk => gk_sc hSc x _ (fun e => by have := h8k e; omega))
        have e : (rs.map fun r => (r.1, r.2.headD .tq)).map Prod.snd = (plcs ks (i + 1)).map fun p => ts.getD p .tq := by
          rw [List.map_map, ← h4]; rfl
        have e0 : ts.getD i .tq = τ := by rw [List.getD_eq_getElem?_getD, hts0]; rfl
        have hlen : x.kids = ((rs.map fun r => (r.1, r.2.headD .tq)).length : Int) := by rw [List.length_map, h5]; exact hwf.1
        have hd64 : ∀ p, (enc (ts.getD p .tq)).length ≤ 64 := fun p => by
          rw [List.getD_eq_getElem?_getD]
          cases hp : ts[p]? with
          | none => decide
          | some u => exact h64 u (List.mem_of_getElem? hp)
        have hk64 : ∀ q ∈ (rs.map fun r => (r.1, r.2.headD .tq)), (enc q.2).length ≤ 64 := fun q hq => by
          have : q.2 ∈ (rs.map fun r => (r.1, r.2.headD .tq)).map Prod.snd := List.mem_map.2 ⟨q, hq, rfl⟩
          rw [e] at this
          obtain ⟨p, _, hp⟩ := List.mem_map.1 this
          rw [← hp]; exact hd64 p
        have ht64 : ∀ t ∈ ((plcs ks (i + 1)).map fun p => ts.getD p .tq), (enc t).length ≤ 64 := fun t ht => by
          obtain ⟨p, _, hp⟩ := List.mem_map.1 ht
          rw [← hp]; exact hd64 p
        have hWl := node_wl (G := G) (L := L) hN hmx hah hSc hk64 hlen hr
        rw [e] at hWl
        have hF := fold_lb (x := x) (kx := ks.map rootN) ht64 (wishes x τ ((plcs ks (i + 1)).map fun p => ts.getD p .tq)) (inL [] ts L x 0 ks (i + 1) ss) hWl (by rw [List.length_map, plcs_len, inL_len]) hk
        rw [inT]
        simp only
        rw [e0, term]
        have hnk : ∀ y ∈ nodeP [] L τ x, y.kind ≠ 30 := fun y hy => by
          have hhi := hN.hi
          have hyk : y.kind = x.kind := by
            unfold nodeP at hy
            split at hy
            · simp at hy
            · simp only [List.mem_singleton] at hy
              subst hy
              (repeat' split) <;> rfl
          omega
        have hN0 : Lb (nodeP [] L τ x) ss ss := by
          refine ⟨⟨[], by simp⟩, ?_, fun y hy hk => absurd hk (hnk y hy)⟩
          have : lab (nodeP [] L τ x) = [] := by
            unfold lab
            rw [List.filter_eq_nil_iff.2 (fun y hy => by simpa using hnk y hy)]
            rfl
          rw [this, upTo_none]
        exact hN0.app hF
theorem lb_L (ts : List Ty) (h64 : ∀ t ∈ ts, (enc t).length ≤ 64) : ∀ (ks : List T) (env : Env) (x : Nd) (j i : Nat) (rs : List (Nat × List Ty)) (L : List (List UInt8)) (G : List Ty) (ss : List Si), Tr.wfs ks → (∀ y ∈ flats ks, Tr.mayB y = true) → ckL env x j ks i = .ok rs → (∀ (q : Nat) u, (rs.map Prod.snd).flatten[q]? = some u → ts[i + q]? = some u) → (∀ k, k < ks.length → Sc (Ck.inner x (j + k) env) (inn x (j + k) L) (gk x G (j + k))) →
    Lb (terms (inL [] ts L x j ks i ss).1) ss (inL [] ts L x j ks i ss).2 ∧ rs.map (fun r => r.2.headD .tq) = (plcs ks i).map (fun p => ts.getD p .tq) ∧ rs.length = ks.length
  | [], env, x, j, i, rs, L, G, ss, hw, hm, h, hts, hS => by
    rw [ckL] at h
    cases h
    rw [inL]
    exact ⟨⟨⟨[], by simp⟩, by simp [lab, terms, upTo], fun y hy => by simp [terms] at hy⟩, by simp [plcs], rfl⟩
  | t :: r, env, x, j, i, rs, L, G, ss, hw, hm, h, hts, hS => by
    rw [Tr.wfs] at hw
    rw [ckL] at h
    cases hT : ckT (Ck.inner x j env) t i with
    | error e => rw [hT] at h; cases h
    | ok a =>
      rw [hT] at h
      simp only at h
      cases hL : ckL env x (j + 1) r (i + (flat t).length) with
      | error e => rw [hL] at h; cases h
      | ok b =>
        rw [hL] at h
        simp only at h
        cases h
        have hal : a.length = (flat t).length := Ck.len_T t _ _ a hT
        have hpos := Tr.flat_pos t
        have hta : ∀ (q : Nat) u, a[q]? = some u → ts[i + q]? = some u := fun q u hq => hts q u (by
          simp only [List.map_cons, List.flatten_cons]
          rw [List.getElem?_append_left (List.getElem?_eq_some_iff.1 hq).1]; exact hq)
        have htb : ∀ (q : Nat) u, (b.map Prod.snd).flatten[q]? = some u → ts[i + (flat t).length + q]? = some u := fun q u hq => by
          have := hts (a.length + q) u (by
            simp only [List.map_cons, List.flatten_cons]
            rw [List.getElem?_append_right (by omega), show a.length + q - a.length = q by omega]; exact hq)
          rwa [hal, ← Nat.add_assoc] at this
        have hS0 := hS 0 (by simp)
        rw [Nat.add_zero] at hS0
        have g1 := lb_T ts h64 t (Ck.inner x j env) i a (inn x j L) (gk x G j) ss hw.1 (fun y hy => hm y (by simp [flats, hy])) hT hta hS0
        obtain ⟨k1, k2, k3⟩ := lb_L ts h64 r env x (j + 1) (i + (flat t).length) b L G (inT [] ts (inn x j L) t i ss).2 hw.2 (fun y hy => hm y (by simp [flats, hy])) hL htb (fun k hk => by have := hS (k + 1) (by simp; omega); rwa [show j + (k + 1) = j + 1 + k by omega] at this)
        have hh := head_of (by omega) hta
        rw [inL, plcs_cons]
        simp only [List.map_cons, terms]
        exact ⟨g1.app k1, by rw [k2, ← hh], by simp [k3]⟩
end
end In
end Go.Proofs.YthdlfeejeboboaaGreatDoor
