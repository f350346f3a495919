/- The document's Part: one kid more. The document's Part: a function that is too large. -/
import Derived.Test.YthihnkgjkmaplaaGreatDoorUbd
import Derived.Test.YthihnkgjkmaplaaGreatDoorUav
namespace Go.Proofs.YthihnkgjkmaplaaGreatDoor
open Go.RowKit Ck
open T3.Tp (Ty enc cns met)
open Tr (T Nd nm flat flats)
set_option maxRecDepth 100000
set_option linter.unusedSimpArgs false
set_option linter.unusedVariables false

/-- Part, of parts of at most so many nodes. -/
def PrtC (cb tb : Nat) (nv : Value) (l : List Nd) (sm : Bool) (a0 : Int) (N : Nat) : Prop := ∀ (t : T) (p : Nat) (rest : List Nd) (env : Env) (ev : Value) (w : World), (flat t).length ≤ N → Tr.wf t → l.drop p = flat t ++ rest → EnvOk env → env.length ≤ 500 + 2 * p → Kst w cb tb nv l → KC w cb tb l.length nv 0 a0 sm → Eo8 w cb tb ev env →
  Calls Tryz.prog 60 #[.pointer (some ⟨cb, 0, none⟩), .int .i64 (p : Int), ev] w (KpEnd w cb tb nv l sm a0 p (flat t).length (kdT sm env t p))
/-- What holds between kids, refused or not: m nodes stand behind the node i. -/
structure Lg (w wr : World) (cb tb : Nat) (nv ev : Value) (l : List Nd) (env : Env) (x : Nd) (i m B : Nat) (rv : Value) (pl : List Nat) : Prop where
  tw : Two cb tb w wr
  st : Kst wr cb tb nv l
  eo : Eo8 wr cb tb ev env
  nd : wr.heap[w.heap.size]? = some (.cells (ndA8 x) 64)
  kr : wr.ownsRow B 3 1 rv pl.length (icells pl)
  bb : w.heap.size < B
  lt : cb < w.heap.size ∧ tb < w.heap.size
  fr : ∀ q, (q < i + 1 ∨ i + 1 + m ≤ q) → wr.cell? ⟨tb, q, none⟩ = w.cell? ⟨tb, q, none⟩
theorem Lg.next {w wr w' : World} {cb tb : Nat} {nv ev : Value} {l : List Nd} {env : Env} {x : Nd} {i m B : Nat} {rv : Value} {pl : List Nat} (h : Lg w wr cb tb nv ev l env x i m B rv pl) (k : Two cb tb wr w') (hs : Kst w' cb tb nv l) (hf : ∀ q, (q < i + 1 ∨ i + 1 + m ≤ q) → w'.cell? ⟨tb, q, none⟩ = wr.cell? ⟨tb, q, none⟩) : Lg w w' cb tb nv ev l env x i m B rv pl := by
  have hlt := h.lt
  have hbb := h.bb
  have hsz : w.heap.size < wr.heap.size := (Array.getElem?_eq_some_iff.1 h.nd).1
  refine ⟨h.tw.trans k, hs, h.eo.two k, (k.block _ hsz (by omega) (by omega)).trans h.nd, ?_, h.bb, h.lt, fun q hq => (hf q hq).trans (h.fr q hq)⟩
  obtain ⟨h0, h1 | ⟨g, cap, cur, h1, h2, h3, h4⟩⟩ := h.kr
  · exact ⟨h0, .inl h1⟩
  · exact ⟨h0, .inr ⟨g, cap, cur, h1, h2, (k.block g (Array.getElem?_eq_some_iff.1 h3).1 (by omega) (by omega)).trans h3, h4⟩⟩
theorem Lg.below {w wr w' : World} {cb tb : Nat} {nv ev : Value} {l : List Nd} {env : Env} {x : Nd} {i m B : Nat} {rv : Value} {pl : List Nat} (h : Lg w wr cb tb nv ev l env x i m B rv pl) (k : Below wr.heap.size wr w') : Lg w w' cb tb nv ev l env x i m B rv pl :=
  h.next (below_two k cb tb) (h.st.below k) (fun q _ => k.cell (p := ⟨tb, q, none⟩) h.st.lt)
/-- How far the kids are reckoned. -/
def Lst (wr : World) (cb tb : Nat) (nv : Value) (l rest : List Nd) (sm : Bool) (a0 : Int) (env : Env) (x : Nd) (ks : List T) (i k : Nat) : Prop :=
  (∃ p rs, KC wr cb tb l.length nv 0 a0 sm ∧ p + (flats (ks.drop k)).length = i + 1 + (flats ks).length ∧ i + 1 ≤ p ∧ l.drop p = flats (ks.drop k) ++ rest ∧ kdL sm env x 0 ks (i + 1) = addD rs (kdL sm env x k (ks.drop k) p) ∧ rs.length = k ∧
    (∀ m r, rs[m]? = some r → r.1 = i + 1 + (flats (ks.take m)).length ∧ r.1 < p ∧ wr.cell? ⟨tb, r.1, none⟩ = some (.string (S (enc (r.2.headD .tq)))) ∧ (enc (r.2.headD .tq)).length ≤ 64) ∧
    i + 1 + (rs.map Prod.snd).flatten.length = p ∧ ∀ j t, (rs.map Prod.snd).flatten[j]? = some t → wr.cell? ⟨tb, i + 1 + j, none⟩ = some (.string (S (enc t)))) ∨
  (∃ q : Int × Nat, KC wr cb tb l.length nv q.1 (q.2 : Int) sm ∧ q.1 ≠ 0 ∧ kdL sm env x 0 ks (i + 1) = .error q)
theorem Lst.below {wr w' : World} {cb tb : Nat} {nv : Value} {l rest : List Nd} {sm : Bool} {a0 : Int} {env : Env} {x : Nd} {ks : List T} {i k : Nat} (h : Lst wr cb tb nv l rest sm a0 env x ks i k) (hb : Below wr.heap.size wr w') (ht : tb < wr.heap.size) : Lst w' cb tb nv l rest sm a0 env x ks i k := by
  have hc : ∀ q, w'.cell? ⟨tb, q, none⟩ = wr.cell? ⟨tb, q, none⟩ := fun q => hb.cell (p := ⟨tb, q, none⟩) ht
  rcases h with ⟨p, rs, h1, h2, h3, h4, h5, h6, h7, h8, h9⟩ | ⟨q, h1, h2⟩
  · exact .inl ⟨p, rs, h1.below hb, h2, h3, h4, h5, h6, fun m r hr => by rw [hc]; exact h7 m r hr, h8, fun j t ht => by rw [hc]; exact h9 j t ht⟩
  · exact .inr ⟨q, h1.below hb, h2⟩

theorem wfs_mid8 : ∀ {a : List T} {t : T} {b : List T}, Tr.wfs (a ++ t :: b) → Tr.wf t
  | [], t, b, h => by rw [List.nil_append, Tr.wfs] at h; exact h.1
  | u :: a, t, b, h => by rw [List.cons_append, Tr.wfs] at h; exact wfs_mid8 h.2
/-- One kid more. -/
theorem kstep {cb tb : Nat} {nv ev : Value} {l rest : List Nd} {sm : Bool} {a0 : Int} {N : Nat} (hP : PrtC cb tb nv l sm a0 N) {w wr : World} {env : Env} {x : Nd} {ks : List T} {i k B : Nat} {rv : Value} {pl : List Nat}
    (hg : Lg w wr cb tb nv ev l env x i (flats ks).length B rv pl) (hs : Lst wr cb tb nv l rest sm a0 env x ks i k) (hk : k < ks.length) (hw : Tr.wfs ks) (hN : (flats ks).length ≤ N) (hE : EnvOk (Ck.inner x k env)) (hln : (Ck.inner x k env).length ≤ 500 + 2 * (i + 1)) (v' : Value) (hv : Eo8 wr cb tb v' (Ck.inner x k env))
    (hpos : ∀ t p q, kdT sm (Ck.inner x k env) t p = .error q → t ∈ ks → q.1 ≠ 0) :
    Calls Tryz.prog 60 #[.pointer (some ⟨cb, 0, none⟩), .int .i64 ((i + 1 + (flats (ks.take k)).length : Nat) : Int), v'] wr fun e w5 => e = .returned (.tuple #[]) ∧ Lg w w5 cb tb nv ev l env x i (flats ks).length B rv pl ∧ Lst w5 cb tb nv l rest sm a0 env x ks i (k + 1) := by
  obtain ⟨tk, htk⟩ : ∃ tk, ks[k]? = some tk := ⟨_, List.getElem?_eq_getElem hk⟩
  have hdk : ks.drop k = tk :: ks.drop (k + 1) := by rw [List.drop_eq_getElem_cons hk, (List.getElem?_eq_some_iff.1 htk).2]
  have hmem : tk ∈ ks := List.mem_of_getElem? htk
  have hfe : (flats ks).length = (flats (ks.take k)).length + ((flat tk).length + (flats (ks.drop (k + 1))).length) := by
    conv => lhs; rw [← List.take_append_drop k ks, hdk, Tr.flats_append]
    simp [flats]
  have hwk : Tr.wf tk := by
    have h := hw
    rw [← List.take_append_drop k ks, hdk] at h
    exact wfs_mid8 h
  rcases hs with ⟨p, rs, h1, h2, h3, h4, h5, h6, h7, h8, h9⟩ | ⟨q, h1, h2, h3⟩
  · have hp : p = i + 1 + (flats (ks.take k)).length := by
      rw [hdk] at h2
      simp only [flats, List.length_append] at h2
      omega
    rw [← hp]
    rw [hdk] at h4 h5
    simp only [flats, List.append_assoc] at h4
    refine (hP tk p _ (Ck.inner x k env) v' wr (by omega) hwk h4 hE (by omega) hg.st h1 hv).mono ?_
    rintro e w5 ⟨rfl, e1, e2, e3, e4, e5⟩
    have hlow : ∀ q, q < p → w5.cell? ⟨tb, q, none⟩ = wr.cell? ⟨tb, q, none⟩ := fun q hq => e4 q (.inl hq)
    refine ⟨rfl, hg.next e1 e2 (fun q hq => e4 q (by rcases hq with h | h; exact .inl (by omega); exact .inr (by omega))), ?_⟩
    cases hr : kdT sm (Ck.inner x k env) tk p with
    | error q =>
      rw [hr] at e3
      exact .inr ⟨q, e3, hpos tk p q hr hmem, by rw [h5, addD_err hr]⟩
    | ok a =>
      rw [hr] at e3 e5
      obtain ⟨l1, l2⟩ := kdT_len tk _ _ a hr
      have hap := Tr.flat_pos tk
      obtain ⟨u, r', rfl⟩ : ∃ u r', a = u :: r' := by
        cases a with
        | nil => simp at l1; omega
        | cons u r' => exact ⟨u, r', rfl⟩
      have e5' := e5 _ rfl
      refine .inl ⟨p + (flat tk).length, rs ++ [(p, u :: r')], e3, by omega, by omega, by rw [← List.drop_drop, h4, List.drop_left], by rw [h5, addD_ok hr], by simp [h6], fun m r hm => ?_, ?_, fun j t ht => ?_⟩
      · by_cases hmk : m < rs.length
        · rw [List.getElem?_append_left hmk] at hm
          obtain ⟨g1, g2, g3, g4⟩ := h7 m r hm
          exact ⟨g1, by omega, (hlow r.1 g2).trans g3, g4⟩
        · rw [List.getElem?_append_right (by omega)] at hm
          have : m - rs.length = 0 := by
            have := (List.getElem?_eq_some_iff.1 hm).1
            simp at this
            omega
          rw [this] at hm
          cases hm
          refine ⟨?_, by show p < _; omega, ?_, l2 u (by simp)⟩
          · show p = _
            rw [hp, show m = k by omega]
          · have := e5' 0 u rfl
            rwa [Nat.add_zero] at this
      · simp only [List.map_append, List.map_cons, List.map_nil, List.flatten_append, List.flatten_cons, List.flatten_nil, List.append_nil, List.length_append]
        omega
      · simp only [List.map_append, List.map_cons, List.map_nil, List.flatten_append, List.flatten_cons, List.flatten_nil, List.append_nil] at ht
        by_cases hj : j < (rs.map Prod.snd).flatten.length
        · rw [List.getElem?_append_left hj] at ht
          exact (hlow _ (by omega)).trans (h9 j t ht)
        · rw [List.getElem?_append_right (by omega)] at ht
          have := e5' _ t ht
          rw [show p + (j - (rs.map Prod.snd).flatten.length) = i + 1 + j by omega] at this
          exact this
  · refine (kpart_old h1 h2 _ v').mono ?_
    rintro e w5 ⟨rfl, rfl⟩
    exact ⟨rfl, hg, .inr ⟨q, h1, h2, h3⟩⟩
end Go.Proofs.YthihnkgjkmaplaaGreatDoor
namespace Go.Proofs.YthihnkgjkmaplaaGreatDoor
open Go.RowKit Ck
open T3.Tp (Ty enc cns met)
open Tr (T Nd nm flat flats)
set_option maxRecDepth 100000
set_option linter.unusedSimpArgs false
set_option linter.unusedVariables false

set_option maxHeartbeats 4000000 in
theorem kpart_large5 {w : World} {cb tb : Nat} {nv ev : Value} {l : List Nd} {sm : Bool} {a0 : Int} (x : Nd) (i m : Nat) (hx : l[i]? = some x) (hκ : x.kind = 5) (hxt : x.t = ⟨#[]⟩ ∨ x.t = S (enc (wr x.t))) (hzt : (enc (wr x.t)).length ≤ 64) (hxu : x.u = ⟨#[]⟩ ∨ x.u = S (enc (wr x.u))) (hzu : (enc (wr x.u)).length ≤ 64) (hbig : 64 < (enc (.tf (wr x.t) (wr x.u))).length) (hS : Kst w cb tb nv l) (hC : KC w cb tb l.length nv 0 a0 sm) :
    Calls Tryz.prog 60 #[.pointer (some ⟨cb, 0, none⟩), .int .i64 (i : Int), ev] w (KpEnd w cb tb nv l sm a0 i m (.error (21, i))) := by
  obtain ⟨va, vc, rfl⟩ := hS.no.form
  have hil : i < l.length := (List.getElem?_eq_some_iff.1 hx).1
  have hi0 : (0 : Int) ≤ (i : Int) := by omega
  have hil' : (i : Int) < (l.length : Int) := by omega
  obtain ⟨b1, o1, rfl, hlc, hb1, hcx⟩ := hS.no.at hx
  obtain ⟨p0, p1, p2, p3, p4, p5, p6, p7⟩ := agg_cells (o := o1 + i * 8) hcx
  have c0 := hC.l0
  have c2 := hC.er
  obtain ⟨W1, hW1⟩ : ∃ W1, W1 = w.alloc (.cells (ndA8 x) 64) := ⟨_, rfl⟩
  have hB1 : Below w.heap.size w W1 := by rw [hW1]; exact (Below.refl _ _).alloc (Nat.le_refl _) _
  have hx1 : W1.heap[w.heap.size]? = some (.cells (ndA8 x) 64) := by rw [hW1]; exact heap_alloc_new _ _
  have hno := kno_set W1.drew cb tb l.length a0 sm 21 (i : Int) (hC.below hB1).drew
  have HE : Aside (∀ w2, KC w2 cb tb l.length (.slice (some ⟨b1, o1, none⟩) l.length vc) 21 (i : Int) sm → Two cb cb W1.drew w2 → KpEnd w cb tb (.slice (some ⟨b1, o1, none⟩) l.length vc) l sm a0 i m (.error (21, i)) (.returned (.tuple #[])) w2) := fun w2 h1 h2 => by
    have h3 : Two cb cb w w2 := (below_two hB1 cb cb).trans h2.drewL
    refine ⟨rfl, ⟨h3.os, h3.tape, h3.output, h3.size, fun j hj ha _ => h3.block j hj ha ha⟩, hS.one h3, h1, fun k _ => ?_, fun ts h => by cases h⟩
    exact h3.cell (p := ⟨tb, k, none⟩) hS.lt (fun e => hS.ne e.symm) (fun e => hS.ne e.symm)
  have q0 : W1.cell? ⟨w.heap.size, 0, none⟩ = some (.int .i8 x.kind) := (block_cells hx1).1 0
  have q4 : W1.cell? ⟨w.heap.size, 4, none⟩ = some (.string x.t) := (block_cells hx1).1 4
  have q5 : W1.cell? ⟨w.heap.size, 5, none⟩ = some (.string x.u) := (block_cells hx1).1 5
  have HQ0 : Aside (W1.cell? ⟨w.heap.size, 0, none⟩ = some (.int .i8 5)) := by show _ = _; rw [q0, hκ]
  have hnt := fun w => knote_any hxt w
  have hnu := fun w => knote_any hxu w
  have ha1 : (⟨#[62]⟩ : ByteArray) ++ S (enc (wr x.t)) = S (62 :: enc (wr x.t)) := S_add8 [62] (enc (wr x.t))
  have ha2 : S (62 :: enc (wr x.t)) ++ S (enc (wr x.u)) = S (enc (.tf (wr x.t) (wr x.u))) := S_add8 (62 :: enc (wr x.t)) (enc (wr x.u))
  have hS0 : (S (enc (wr x.t))).size ≤ 64 := by rw [S_size]; exact hzt
  have hS1 : (S (enc (wr x.u))).size ≤ 64 := by rw [S_size]; exact hzu
  have hS2 : (S (62 :: enc (wr x.t))).size ≤ 65 := by rw [S_size]; simp; omega
  have hS3 : (64 : Int) < ((S (enc (.tf (wr x.t) (wr x.u)))).size : Int) := by rw [S_size]; omega
  clear hcx hS hC hB1 hx1 hκ q0 hx hxt hxu hzt hzu hbig
  generalize S (enc (.tf (wr x.t) (wr x.u))) = s3 at *
  generalize S (62 :: enc (wr x.t)) = s2 at *
  generalize S (enc (wr x.t)) = s0 at *
  generalize S (enc (wr x.u)) = s1 at *
  have k1 : ¬ 9223372036854775807 < 1 + s0.size := by omega
  have k2 : ¬ 9223372036854775807 < s2.size + s1.size := by omega
  go_enter Tryz.func60, Tryz.ntmps60
  go_upto_region 2 with fail
  rw [← hW1]
  clear hW1 p0 p1 p2 p3 p4 p5 p6 p7 c0 c2
  have q0 := HQ0.out
  go_wp2_with fail
  refine wp_region_still_lit mix8 (by kernel_rfl) ?_
  repeat still_step
  still_call (hnt _)
  repeat still_step
  still_call (hnu _)
  repeat still_step
  refine wpStill_nil ?_
  go_wp2_with fail
  refine hno.mono ?_
  rintro e w2 ⟨rfl, h1, h2⟩
  have hE := HE.out w2 h1 h2
  clear hno h1 h2 HE
  go_wp2_with fail
  refine bodyPost_ret (results_none rfl _ _ _) rfl ?_
  exact hE
set_option maxHeartbeats 4000000 in
theorem kpart_large6 {w : World} {cb tb : Nat} {nv ev : Value} {l : List Nd} {sm : Bool} {a0 : Int} (x : Nd) (i m : Nat) (hx : l[i]? = some x) (hκ : x.kind = 6) (hxt : x.t = ⟨#[]⟩ ∨ x.t = S (enc (wr x.t))) (hzt : (enc (wr x.t)).length ≤ 64) (hxu : x.u = ⟨#[]⟩ ∨ x.u = S (enc (wr x.u))) (hzu : (enc (wr x.u)).length ≤ 64) (hbig : 64 < (enc (.tf (wr x.t) (wr x.u))).length) (hS : Kst w cb tb nv l) (hC : KC w cb tb l.length nv 0 a0 sm) :
    Calls Tryz.prog 60 #[.pointer (some ⟨cb, 0, none⟩), .int .i64 (i : Int), ev] w (KpEnd w cb tb nv l sm a0 i m (.error (21, i))) := by
  obtain ⟨va, vc, rfl⟩ := hS.no.form
  have hil : i < l.length := (List.getElem?_eq_some_iff.1 hx).1
  have hi0 : (0 : Int) ≤ (i : Int) := by omega
  have hil' : (i : Int) < (l.length : Int) := by omega
  obtain ⟨b1, o1, rfl, hlc, hb1, hcx⟩ := hS.no.at hx
  obtain ⟨p0, p1, p2, p3, p4, p5, p6, p7⟩ := agg_cells (o := o1 + i * 8) hcx
  have c0 := hC.l0
  have c2 := hC.er
  obtain ⟨W1, hW1⟩ : ∃ W1, W1 = w.alloc (.cells (ndA8 x) 64) := ⟨_, rfl⟩
  have hB1 : Below w.heap.size w W1 := by rw [hW1]; exact (Below.refl _ _).alloc (Nat.le_refl _) _
  have hx1 : W1.heap[w.heap.size]? = some (.cells (ndA8 x) 64) := by rw [hW1]; exact heap_alloc_new _ _
  have hno := kno_set W1.drew cb tb l.length a0 sm 21 (i : Int) (hC.below hB1).drew
  have HE : Aside (∀ w2, KC w2 cb tb l.length (.slice (some ⟨b1, o1, none⟩) l.length vc) 21 (i : Int) sm → Two cb cb W1.drew w2 → KpEnd w cb tb (.slice (some ⟨b1, o1, none⟩) l.length vc) l sm a0 i m (.error (21, i)) (.returned (.tuple #[])) w2) := fun w2 h1 h2 => by
    have h3 : Two cb cb w w2 := (below_two hB1 cb cb).trans h2.drewL
    refine ⟨rfl, ⟨h3.os, h3.tape, h3.output, h3.size, fun j hj ha _ => h3.block j hj ha ha⟩, hS.one h3, h1, fun k _ => ?_, fun ts h => by cases h⟩
    exact h3.cell (p := ⟨tb, k, none⟩) hS.lt (fun e => hS.ne e.symm) (fun e => hS.ne e.symm)
  have q0 : W1.cell? ⟨w.heap.size, 0, none⟩ = some (.int .i8 x.kind) := (block_cells hx1).1 0
  have q4 : W1.cell? ⟨w.heap.size, 4, none⟩ = some (.string x.t) := (block_cells hx1).1 4
  have q5 : W1.cell? ⟨w.heap.size, 5, none⟩ = some (.string x.u) := (block_cells hx1).1 5
  have HQ0 : Aside (W1.cell? ⟨w.heap.size, 0, none⟩ = some (.int .i8 6)) := by show _ = _; rw [q0, hκ]
  have hnt := fun w => knote_any hxt w
  have hnu := fun w => knote_any hxu w
  have ha1 : (⟨#[62]⟩ : ByteArray) ++ S (enc (wr x.t)) = S (62 :: enc (wr x.t)) := S_add8 [62] (enc (wr x.t))
  have ha2 : S (62 :: enc (wr x.t)) ++ S (enc (wr x.u)) = S (enc (.tf (wr x.t) (wr x.u))) := S_add8 (62 :: enc (wr x.t)) (enc (wr x.u))
  have hS0 : (S (enc (wr x.t))).size ≤ 64 := by rw [S_size]; exact hzt
  have hS1 : (S (enc (wr x.u))).size ≤ 64 := by rw [S_size]; exact hzu
  have hS2 : (S (62 :: enc (wr x.t))).size ≤ 65 := by rw [S_size]; simp; omega
  have hS3 : (64 : Int) < ((S (enc (.tf (wr x.t) (wr x.u)))).size : Int) := by rw [S_size]; omega
  clear hcx hS hC hB1 hx1 hκ q0 hx hxt hxu hzt hzu hbig
  generalize S (enc (.tf (wr x.t) (wr x.u))) = s3 at *
  generalize S (62 :: enc (wr x.t)) = s2 at *
  generalize S (enc (wr x.t)) = s0 at *
  generalize S (enc (wr x.u)) = s1 at *
  have k1 : ¬ 9223372036854775807 < 1 + s0.size := by omega
  have k2 : ¬ 9223372036854775807 < s2.size + s1.size := by omega
  go_enter Tryz.func60, Tryz.ntmps60
  go_upto_region 2 with fail
  rw [← hW1]
  clear hW1 p0 p1 p2 p3 p4 p5 p6 p7 c0 c2
  have q0 := HQ0.out
  go_wp2_with fail
  refine wp_region_still_lit mix8 (by kernel_rfl) ?_
  repeat still_step
  still_call (hnt _)
  repeat still_step
  still_call (hnu _)
  repeat still_step
  refine wpStill_nil ?_
  go_wp2_with fail
  refine hno.mono ?_
  rintro e w2 ⟨rfl, h1, h2⟩
  have hE := HE.out w2 h1 h2
  clear hno h1 h2 HE
  go_wp2_with fail
  refine bodyPost_ret (results_none rfl _ _ _) rfl ?_
  exact hE
end Go.Proofs.YthihnkgjkmaplaaGreatDoor
