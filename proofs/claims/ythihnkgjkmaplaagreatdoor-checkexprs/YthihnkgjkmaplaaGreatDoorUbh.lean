/- The document's Part: the walk. The document's Part, of any part of a tree that may be. -/
import Derived.Test.YthihnkgjkmaplaaGreatDoorUbf
import Derived.Test.YthihnkgjkmaplaaGreatDoorUbe
import Derived.Deep.RegionHeld3
import Derived.Test.YthihnkgjkmaplaaGreatDoorUba
import Derived.Test.YthihnkgjkmaplaaGreatDoorUbg
namespace Go.Proofs.YthihnkgjkmaplaaGreatDoor
open Go.RowKit Ck
open T3.Tp (Ty enc cns met)
open Tr (T Nd nm flat flats)
set_option maxRecDepth 100000
set_option linter.unusedSimpArgs false
set_option linter.unusedVariables false

set_option maxHeartbeats 16000000 in
theorem kpart_6 {cb tb : Nat} {nv ev : Value} {l rest : List Nd} {sm : Bool} {a0 : Int} {N : Nat} (hP : PrtC cb tb nv l sm a0 N) (hl : l.length ≤ 2000) {w : World} (x : Nd) (κ : Nat) (ks : List T) (i : Nat) (env : Env) (hN0 : Nod x κ) (hss : x.s.size ≤ maxLen) (hcut : x.kind = 6 → (Tr.cut32 (nm x)).2.2 = true) (hw : Tr.wf (.nd x ks)) (hd : l.drop i = flat (.nd x ks) ++ rest) (hN : (flats ks).length ≤ N) (hE : EnvOk env) (hln : env.length ≤ 500 + 2 * i) (hS : Kst w cb tb nv l) (hC : KC w cb tb l.length nv 0 a0 sm) (hev : Eo8 w cb tb ev env) (ha : Ck.ahead x = false) (hκ : x.kind = 6)
    (hpos : ∀ j t p q, kdT sm (Ck.inner x j env) t p = .error q → t ∈ ks → q.1 ≠ 0) (hposR : ∀ kk q, kk.length = ks.length → ruleD sm env x i kk = .error q → q.1 ≠ 0) :
    Calls Tryz.prog 60 #[.pointer (some ⟨cb, 0, none⟩), .int .i64 (i : Int), ev] w (KpEnd w cb tb nv l sm a0 i (flat (.nd x ks)).length (kdT sm env (.nd x ks) i)) := by
  have hx : l[i]? = some x := by have := Tr.at_drop (q := 0) hd; simpa [Tr.flat] using this
  have hwf := hw
  rw [Tr.wf] at hwf
  have hd1 : l.drop (i + 1) = flats ks ++ rest := by
    have h := congrArg (List.drop 1) hd
    rw [List.drop_drop] at h
    simpa [flat] using h
  have hfl : (flat (.nd x ks)).length = (flats ks).length + 1 := by rw [flat, List.length_cons]
  have hend : i + 1 + (flats ks).length ≤ l.length := by
    have := congrArg List.length hd1
    simp at this
    have hil : i < l.length := (List.getElem?_eq_some_iff.1 hx).1
    omega
  obtain ⟨va, vc, rfl⟩ := hS.no.form
  have hil : i < l.length := (List.getElem?_eq_some_iff.1 hx).1
  have hi0 : (0 : Int) ≤ (i : Int) := by omega
  have hil' : (i : Int) < (l.length : Int) := by omega
  obtain ⟨b1, o1, rfl, hlc, hb1, hcx⟩ := hS.no.at hx
  obtain ⟨p0, p1, p2, p3, p4, p5, p6, p7⟩ := agg_cells (o := o1 + i * 8) hcx
  have c0 := hC.l0
  have c2 := hC.er
  obtain ⟨W1, hW1⟩ : ∃ W1, W1 = w.alloc (.cells (ndA8 x) 64) := ⟨_, rfl⟩
  have hB1 : Below w.heap.size w W1 := by rw [hW1]; exact (Below.refl _ _).alloc (Nat.le_refl _) _
  have hz1 : W1.heap.size = w.heap.size + 1 := by rw [hW1]; simp
  have hx1 : W1.heap[w.heap.size]? = some (.cells (ndA8 x) 64) := by rw [hW1]; exact heap_alloc_new _ _
  have hkl : ks.length ≤ 2000 := by
    have := kids_le8 ks
    omega
  have HKids : Aside (∀ W, Sm8 W1 W → W.cell? ⟨cb, 0, none⟩ = some (.slice (some ⟨b1, o1, none⟩) l.length vc) ∧ Calls Tryz.prog 91 #[(.slice (some ⟨b1, o1, none⟩) l.length vc), .int .i64 (i : Int)] W fun e w2 => ∃ ra rc, e = .returned (.slice ra ks.length rc) ∧ Lg w w2 cb tb (.slice (some ⟨b1, o1, none⟩) l.length vc) ev l env x i (flats ks).length W.heap.size (.slice ra ks.length rc) (plc ks (i + 1)) ∧ Lst w2 cb tb (.slice (some ⟨b1, o1, none⟩) l.length vc) l rest sm a0 env x ks i 0) := fun W hSm => by
    have hBW : Below W1.heap.size W1 W := ⟨hSm.os, hSm.tape, hSm.output, by rw [hSm.heap]; exact Nat.le_refl _, fun k _ => by rw [hSm.heap]⟩
    have hB0 : Below w.heap.size w W := hB1.trans (hBW.mono (by omega))
    have hzW : W.heap.size = w.heap.size + 1 := by rw [hSm.heap]; exact hz1
    have hLW : Lg w W cb tb (.slice (some ⟨b1, o1, none⟩) l.length vc) ev l env x i (flats ks).length W.heap.size (.slice none 0 0) [] := by
      refine ⟨below_two hB0 cb tb, hS.below hB0, hev.two (below_two hB0 cb tb), by rw [hSm.heap]; exact hx1, World.ownsRow_nil _ _ _ _, by omega, ⟨hC.lt, hS.lt⟩, fun q _ => hB0.cell (p := ⟨tb, q, none⟩) hS.lt⟩
    refine ⟨(hC.below hB0).l0, (refKids_any l (by omega) (.slice (some ⟨b1, o1, none⟩) l.length vc) (i : Int) W hLW.st.no).mono ?_⟩
    rintro e w2 ⟨r, rfl, ho, hB2⟩
    rw [kids_tree hw hd, plc_len] at ho
    obtain ⟨ra, rc, rfl⟩ := T3.own_len ho
    have hL2 := hLW.below hB2
    refine ⟨ra, rc, rfl, ⟨hL2.tw, hL2.st, hL2.eo, hL2.nd, by rw [plc_len]; exact ho, hL2.bb, hL2.lt, hL2.fr⟩, .inl ⟨i + 1, [], (hC.below hB0).below hB2, by simp, by omega, hd1, by rw [addD_nil]; rfl, rfl, fun m r h => by simp at h, by simp, fun j t h => by simp at h⟩⟩
  have HI : Aside (∀ wr k B rv, Lg w wr cb tb (.slice (some ⟨b1, o1, none⟩) l.length vc) ev l env x i (flats ks).length B rv (plc ks (i + 1)) → Calls Tryz.prog 92 #[.pointer (some ⟨cb, 0, none⟩), .agg (ndA8 x), .int .i64 ((k : Nat) : Int), ev] wr.drew (InEnd wr.drew (Ck.inner x k env))) := fun wr k B rv hL => kinner_any wr.drew cb x κ k ev env hN0 hss hcut (by omega) (hL.eo.two ⟨rfl, rfl, rfl, Nat.le_refl _, fun _ _ _ _ => rfl⟩).e
  have HPt : Aside (∀ wr k B rv, k < ks.length → Lg w wr cb tb (.slice (some ⟨b1, o1, none⟩) l.length vc) ev l env x i (flats ks).length B rv (plc ks (i + 1)) → Lst wr cb tb (.slice (some ⟨b1, o1, none⟩) l.length vc) l rest sm a0 env x ks i k → ∀ w4 g c, Below wr.drew.heap.size wr.drew w4 → wr.drew.heap.size ≤ g → (Ck.inner x k env).length ≤ c → IsEnv w4 (.slice (some ⟨g, 0, none⟩) (Ck.inner x k env).length c) (Ck.inner x k env) → Calls Tryz.prog 60 #[.pointer (some ⟨cb, 0, none⟩), .int .i64 ((i + 1 + (flats (ks.take k)).length : Nat) : Int), .slice (some ⟨g, 0, none⟩) (Ck.inner x k env).length c] w4 fun e w5 => e = .returned (.tuple #[]) ∧ Lg w w5 cb tb (.slice (some ⟨b1, o1, none⟩) l.length vc) ev l env x i (flats ks).length B rv (plc ks (i + 1)) ∧ Lst w5 cb tb (.slice (some ⟨b1, o1, none⟩) l.length vc) l rest sm a0 env x ks i (k + 1)) := fun wr k B rv hk hL hLs w4 g c hB4 hg4 hc4 hi4 => by
    have hB4' : Below wr.heap.size wr w4 := ⟨hB4.os, hB4.tape, hB4.output, hB4.size, hB4.block⟩
    have hlt := hL.lt
    have hsz : w.heap.size < wr.heap.size := (Array.getElem?_eq_some_iff.1 hL.nd).1
    have hg4' : wr.heap.size ≤ g := hg4
    have := inner_len x k env
    exact kstep hP (hL.below hB4') (hLs.below hB4' hL.st.lt) hk hwf.2 hN (inner_ok hN0 hE ha k) (by omega) _ ⟨hi4, fun a m c' e => by cases e; exact hc4, fun b o n c' e => by cases e; omega⟩ (fun t p q h1 h2 => hpos k t p q h1 h2)
  have HRow : Aside (∀ wr k B ra rc, k < ks.length → Lg w wr cb tb (.slice (some ⟨b1, o1, none⟩) l.length vc) ev l env x i (flats ks).length B (.slice ra ks.length rc) (plc ks (i + 1)) → ∃ rb, ra = some ⟨rb, 0, none⟩ ∧ ks.length ≤ rc ∧ wr.cell? ⟨rb, k, none⟩ = some (.int .i64 ((i + 1 + (flats (ks.take k)).length : Nat) : Int)) ∧ rb ≠ cb ∧ rb ≠ tb ∧ rb < wr.heap.size) := fun wr k B ra rc hk hL => by
    have hlt := hL.lt
    have hbb := hL.bb
    have hkr := hL.kr
    rw [plc_len] at hkr
    obtain ⟨h0, ⟨h1, h2⟩ | ⟨g, cap, cur, h1, h2, h3, h4, h5, h6, h7⟩⟩ := hkr
    · omega
    · cases h1
      refine ⟨g, rfl, h4, ?_, by omega, by omega, (Array.getElem?_eq_some_iff.1 h3).1⟩
      have e1 : (icells (plc ks (i + 1)))[k]? = some (.int .i64 ((i + 1 + (flats (ks.take k)).length : Nat) : Int)) := by
        unfold icells
        rw [List.getElem?_map, plc_at hk]
        rfl
      rw [← h7, List.getElem?_take] at e1
      split at e1
      · rw [(block_cells h3).1 k]; simpa using e1
      · cases e1
  have HEnd : Aside (∀ wr B ra rc, Lg w wr cb tb (.slice (some ⟨b1, o1, none⟩) l.length vc) ev l env x i (flats ks).length B (.slice ra ks.length rc) (plc ks (i + 1)) → Lst wr cb tb (.slice (some ⟨b1, o1, none⟩) l.length vc) l rest sm a0 env x ks i ks.length →
      (∃ q : Int × Nat, wr.cell? ⟨cb, 2, none⟩ = some (.int .i64 q.1) ∧ (q.1 != 0) = true ∧ KpEnd w cb tb (.slice (some ⟨b1, o1, none⟩) l.length vc) l sm a0 i (flat (.nd x ks)).length (kdT sm env (.nd x ks) i) (.returned (.tuple #[])) wr) ∨
      (∃ R : Rs Ty, wr.cell? ⟨cb, 2, none⟩ = some (.int .i64 0) ∧ Calls Tryz.prog 93 #[.pointer (some ⟨cb, 0, none⟩), .int .i64 (i : Int), .agg (ndA8 x), .slice ra ks.length rc, ev] wr (KrEnd wr cb tb l.length (.slice (some ⟨b1, o1, none⟩) l.length vc) a0 sm R) ∧ (∀ q, R = .error q → q.1 ≠ 0) ∧ Kst wr cb tb (.slice (some ⟨b1, o1, none⟩) l.length vc) l ∧
        (∀ w6, Two cb cb wr w6 → ∀ s q, KC w6 cb tb l.length (.slice (some ⟨b1, o1, none⟩) l.length vc) q.1 ((q.2 : Nat) : Int) sm → R = .error q → KpEnd w cb tb (.slice (some ⟨b1, o1, none⟩) l.length vc) l sm a0 i (flat (.nd x ks)).length (kdT sm env (.nd x ks) i) (.returned (.tuple #[])) (w6.setCell ⟨tb, i, none⟩ (.string s))) ∧
        (∀ w6 t, Two cb cb wr w6 → KC w6 cb tb l.length (.slice (some ⟨b1, o1, none⟩) l.length vc) 21 (i : Int) sm → R = .ok t → 64 < (enc t).length → ∀ s, KpEnd w cb tb (.slice (some ⟨b1, o1, none⟩) l.length vc) l sm a0 i (flat (.nd x ks)).length (kdT sm env (.nd x ks) i) (.returned (.tuple #[])) (w6.setCell ⟨tb, i, none⟩ (.string s))) ∧
        (∀ w6 t, Two cb cb wr w6 → KC w6 cb tb l.length (.slice (some ⟨b1, o1, none⟩) l.length vc) 0 a0 sm → R = .ok t → (enc t).length ≤ 64 → KpEnd w cb tb (.slice (some ⟨b1, o1, none⟩) l.length vc) l sm a0 i (flat (.nd x ks)).length (kdT sm env (.nd x ks) i) (.returned (.tuple #[])) (w6.setCell ⟨tb, i, none⟩ (.string (S (enc t))))))) := fun wr B ra rc hL hLs => by
    have hlt := hL.lt
    have hne := hL.st.ne
    have hfrm : ∀ w6, Two cb cb wr w6 → ∀ u k, (k < i ∨ i + (flat (.nd x ks)).length ≤ k) → (w6.setCell ⟨tb, i, none⟩ u).cell? ⟨tb, k, none⟩ = w.cell? ⟨tb, k, none⟩ := fun w6 h6 u k hk => by
      rw [World.cell?_setCell_other (w := w6) (a := ⟨tb, i, none⟩) (b := ⟨tb, k, none⟩) (v := u) (fun e => by cases e; omega)]
      exact (h6.cell (p := ⟨tb, k, none⟩) hL.st.lt (fun e => hne e.symm) (fun e => hne e.symm)).trans (hL.fr k (by omega))
    have htw : ∀ w6, Two cb cb wr w6 → ∀ u, Two cb tb w (w6.setCell ⟨tb, i, none⟩ u) ∧ Kst (w6.setCell ⟨tb, i, none⟩ u) cb tb (.slice (some ⟨b1, o1, none⟩) l.length vc) l := fun w6 h6 u => ⟨(hL.tw.trans ⟨h6.os, h6.tape, h6.output, h6.size, fun j hj h1 _ => h6.block j hj h1 h1⟩).setB i u, (hL.st.one h6).put i u⟩
    rcases hLs with ⟨p, rs, g1, g2, g3, g4, g5, g6, g7, g8, g9⟩ | ⟨q, g1, g2, g3⟩
    · rw [List.drop_length] at g2 g5
      rw [addD_end] at g5
      simp only [flats, List.length_nil, Nat.add_zero] at g2
      right
      have hkk : (rs.map fun r => (r.1, r.2.headD .tq)).length = ks.length := by rw [List.length_map]; exact g6
      have hD : KD wr cb tb l.length (.slice ra ks.length rc) (rs.map fun r => (r.1, r.2.headD .tq)) := by
        refine ⟨?_, by omega, fun e => hne e.symm, fun k hk => ?_⟩
        · by_cases h0 : ks.length = 0
          · left
            exact ⟨List.eq_nil_of_length_eq_zero (by omega), ra, rc, by rw [h0]⟩
          · obtain ⟨rb, rfl, r1, r2, r3, r4, r5⟩ := HRow.out wr 0 B ra rc (by omega) hL
            right
            refine ⟨rb, 0, rc, by rw [hkk], by omega, r3, r5, fun j k hj => ?_⟩
            rw [List.getElem?_map] at hj
            cases hr : rs[j]? with
            | none => rw [hr] at hj; cases hj
            | some r =>
              rw [hr] at hj
              cases hj
              have hjl : j < ks.length := by have := (List.getElem?_eq_some_iff.1 hr).1; omega
              obtain ⟨rb', e', _, r2', _⟩ := HRow.out wr j B _ rc hjl hL
              cases e'
              rw [Nat.zero_add, r2', (g7 j r hr).1]
        · obtain ⟨r, hr, rfl⟩ := List.mem_map.1 hk
          obtain ⟨m, hm⟩ := List.getElem?_of_mem hr
          obtain ⟨k1, k2, k3, k4⟩ := g7 m r hm
          exact ⟨by show r.1 < _; omega, k3, k4⟩
      have hkd := kdT_kids (sm := sm) ha g5
      refine ⟨_, g1.er, krule_any x κ i env _ hN0 (by rw [hkk]; exact hwf.1) g1 hD hL.eo.e hL.eo.cap (by omega), fun q h => hposR _ q hkk h, hL.st, fun w6 h6 s q h7 hR => ?_, fun w6 t h6 h7 hR hb s => ?_, fun w6 t h6 h7 hR hb => ?_⟩
      · rw [hkd, hR]
        exact ⟨rfl, (htw w6 h6 _).1, (htw w6 h6 _).2, h7.setT hne i _, hfrm w6 h6 _, fun ts h => by cases h⟩
      · rw [hkd, hR]
        have : made i t = .error (21, i) := by unfold made; rw [if_neg (by unfold sz; omega)]
        simp only [this]
        exact ⟨rfl, (htw w6 h6 _).1, (htw w6 h6 _).2, h7.setT hne i _, hfrm w6 h6 _, fun ts h => by cases h⟩
      · rw [hkd, hR]
        have : made i t = .ok t := made_ok hb
        simp only [this]
        refine ⟨rfl, (htw w6 h6 _).1, (htw w6 h6 _).2, h7.setT hne i _, hfrm w6 h6 _, fun ts h => ?_⟩
        cases h
        intro j u hj
        obtain ⟨⟨u0, hu0⟩, _⟩ := (hL.st.one h6).cell hil
        cases j with
        | zero =>
          cases hj
          exact World.cell?_setCell_same w6 _ _ hu0
        | succ j =>
          rw [World.cell?_setCell_other (w := w6) (a := ⟨tb, i, none⟩) (b := ⟨tb, i + (j + 1), none⟩) (v := _) (fun e => by cases e)]
          rw [show i + (j + 1) = i + 1 + j by omega]
          exact (h6.cell (p := ⟨tb, i + 1 + j, none⟩) hL.st.lt (fun e => hne e.symm) (fun e => hne e.symm)).trans (g9 j u (by simpa using hj))
    · left
      refine ⟨q, g1.er, by simpa using g2, rfl, hL.tw, hL.st, by rw [kdT_kerr ha g3]; exact g1, fun k hk => hL.fr k (by omega), fun ts h => by rw [kdT_kerr ha g3] at h; cases h⟩
  have q4 : W1.cell? ⟨w.heap.size, 4, none⟩ = some (.string x.t) := (block_cells hx1).1 4
  have q5 : W1.cell? ⟨w.heap.size, 5, none⟩ = some (.string x.u) := (block_cells hx1).1 5
  obtain ⟨hxt, hzt⟩ := note8 (hN0.t (by have := hN0.kind; omega))
  obtain ⟨hxu, hzu⟩ := note8 (hN0.u (by have := hN0.kind; omega))
  have hnt := fun w => knote_any hxt w
  have hnu := fun w => knote_any hxu w
  have ha1 : (⟨#[62]⟩ : ByteArray) ++ S (enc (wr x.t)) = S (62 :: enc (wr x.t)) := S_add8 [62] (enc (wr x.t))
  have ha2 : S (62 :: enc (wr x.t)) ++ S (enc (wr x.u)) = S (enc (.tf (wr x.t) (wr x.u))) := S_add8 (62 :: enc (wr x.t)) (enc (wr x.u))
  have hS0 : (S (enc (wr x.t))).size ≤ 64 := by rw [S_size]; exact hzt
  have hS1 : (S (enc (wr x.u))).size ≤ 64 := by rw [S_size]; exact hzu
  have hS2 : (S (62 :: enc (wr x.t))).size ≤ 65 := by rw [S_size]; simp; omega
  have hsm : (enc (.tf (wr x.t) (wr x.u))).length ≤ 64 := by
    unfold Ck.ahead at ha
    rw [show (x.kind == 5 || x.kind == 6) = true by rw [hκ]; rfl] at ha
    simp only [Bool.true_and, decide_eq_false_iff_not] at ha
    have : ¬ 64 < (enc (.tf (wr x.t) (wr x.u))).length := ha
    omega
  have hS3 : decide ((64 : Int) < ((S (enc (.tf (wr x.t) (wr x.u)))).size : Int)) = false := by rw [S_size]; simp; omega
  have HK5 : Aside (x.kind = 6) := hκ
  clear hxt hxu hzt hzu hsm hκ
  have q0 : W1.cell? ⟨w.heap.size, 0, none⟩ = some (.int .i8 x.kind) := (block_cells hx1).1 0
  have HQ0 : Aside _ := q0
  have HNd : Aside (∀ wr B rv, Lg w wr cb tb (.slice (some ⟨b1, o1, none⟩) l.length vc) ev l env x i (flats ks).length B rv (plc ks (i + 1)) → wr.cell? ⟨w.heap.size, 0, none⟩ = some (.int .i8 x.kind) ∧ wr.cell? ⟨w.heap.size, 1, none⟩ = some (.int .i64 x.kids) ∧ wr.cell? ⟨w.heap.size, 2, none⟩ = some (.int .i64 x.n) ∧ wr.cell? ⟨w.heap.size, 3, none⟩ = some (.string x.s) ∧ wr.cell? ⟨w.heap.size, 4, none⟩ = some (.string x.t) ∧ wr.cell? ⟨w.heap.size, 5, none⟩ = some (.string x.u) ∧ wr.cell? ⟨w.heap.size, 6, none⟩ = some (.int .i64 x.ln) ∧ wr.cell? ⟨w.heap.size, 7, none⟩ = some (.int .i64 x.co)) := fun wr B rv hL => ⟨(block_cells hL.nd).1 0, (block_cells hL.nd).1 1, (block_cells hL.nd).1 2, (block_cells hL.nd).1 3, (block_cells hL.nd).1 4, (block_cells hL.nd).1 5, (block_cells hL.nd).1 6, (block_cells hL.nd).1 7⟩
  have HNo : Aside (∀ w6, KC w6 cb tb l.length (.slice (some ⟨b1, o1, none⟩) l.length vc) 0 a0 sm → Calls Tryz.prog 90 #[.pointer (some ⟨cb, 0, none⟩), .int .i64 21, .int .i64 (i : Int)] w6 fun en w' => en = .returned (.tuple #[]) ∧ KC w' cb tb l.length (.slice (some ⟨b1, o1, none⟩) l.length vc) 21 (i : Int) sm ∧ Two cb cb w6 w') := fun w6 h => kno_set w6 cb tb l.length a0 sm 21 (i : Int) h
  have HCl : Aside (∀ wr w6, Kst wr cb tb (.slice (some ⟨b1, o1, none⟩) l.length vc) l → Two cb cb wr w6 → (∃ u, w6.cell? ⟨tb, i, none⟩ = some u) ∧ w6.frozen? ⟨tb, i, none⟩ = false) := fun wr w6 h1 h2 => (h1.one h2).cell hil
  obtain ⟨RR, hRR⟩ : ∃ RR, RR = kdT sm env (.nd x ks) i := ⟨_, rfl⟩
  rw [← hRR] at HEnd ⊢
  obtain ⟨M, hM⟩ : ∃ M, M = (flat (.nd x ks)).length := ⟨_, rfl⟩
  rw [← hM] at HEnd ⊢
  clear hRR hM hcx hS hC hev hB1 hx1 hx q0 hP hpos hposR hE hd hd1 hw hwf hN0 hcut hss hfl hend ha hz1 hln hN
  generalize S (enc (.tf (wr x.t) (wr x.u))) = s3 at *
  generalize S (62 :: enc (wr x.t)) = s2 at *
  generalize S (enc (wr x.t)) = s0 at *
  generalize S (enc (wr x.u)) = s1 at *
  have k1 : ¬ 9223372036854775807 < 1 + s0.size := by omega
  have k2 : ¬ 9223372036854775807 < s2.size + s1.size := by omega
  have hKids0 := HKids.out W1.drew (Sm8.refl _).drew
  obtain ⟨c0', hKids⟩ := hKids0
  clear HKids
  go_enter Tryz.func60, Tryz.ntmps60
  go_upto_region 2 with fail
  rw [← hW1]
  clear hW1 p0 p1 p2 p3 p4 p5 p6 p7 c0 c2
  have q0 := HQ0.out
  rw [HK5.out] at q0
  go_wp2_with fail
  refine wp_region_still_lit mix8 (by kernel_rfl) ?_
  repeat still_step
  still_call (hnt _)
  repeat still_step
  still_call (hnu _)
  repeat still_step
  refine wpStill_nil ?_
  clear hnt hnu q0 q4 q5 ha1 ha2 hS0 hS1 hS2 k1 k2
  go_wp2_with fail
  refine hKids.mono ?_
  rintro e w2 ⟨ra, rc, rfl, hL0, hLs0⟩
  have HL0 : Aside _ := hL0
  have HLs0 : Aside _ := hLs0
  clear hKids hL0 hLs0
  generalize hBB : W1.drew.heap.size = B at HL0
  clear hBB
  go_wp2_with fail
  go_loopg [9] ks.length (fun g tt wr => ∃ k : Nat, k + g = ks.length ∧ tt = .int .i64 (k : Int) ∧ Aside (Lg w wr cb tb (.slice (some ⟨b1, o1, none⟩) l.length vc) ev l env x i (flats ks).length B (.slice ra ks.length rc) (plc ks (i + 1))) ∧ Aside (Lst wr cb tb (.slice (some ⟨b1, o1, none⟩) l.length vc) l rest sm a0 env x ks i k))
  case atStart => exact ⟨0, by omega, rfl, HL0, HLs0⟩
  case round =>
    clear HL0 HLs0
    obtain ⟨k, hkg, rfl, HL, HLs⟩ := hrel
    have hk0 : (0 : Int) ≤ (k : Int) := by omega
    obtain ⟨n0, n1, n2, n3, n4, n5, n6, n7⟩ := HNd.out wr _ _ HL.out
    by_cases hk : k < ks.length
    · have hk' : (k : Int) < (ks.length : Int) := by omega
      obtain ⟨rb, rfl, hrc, hrow, hr1, hr2, hr3⟩ := HRow.out wr k _ _ _ hk HL.out
      have hI := HI.out wr k _ _ HL.out
      have HP4 : Aside (∀ w4 g c, Below wr.drew.heap.size wr.drew w4 → wr.drew.heap.size ≤ g → (Ck.inner x k env).length ≤ c → IsEnv w4 (.slice (some ⟨g, 0, none⟩) (Ck.inner x k env).length c) (Ck.inner x k env) → Calls Tryz.prog 60 #[.pointer (some ⟨cb, 0, none⟩), .int .i64 ((i + 1 + (flats (ks.take k)).length : Nat) : Int), .slice (some ⟨g, 0, none⟩) (Ck.inner x k env).length c] w4 fun e w5 => e = .returned (.tuple #[]) ∧ Lg w w5 cb tb (.slice (some ⟨b1, o1, none⟩) l.length vc) ev l env x i (flats ks).length B (.slice (some ⟨rb, 0, none⟩) ks.length rc) (plc ks (i + 1)) ∧ Lst w5 cb tb (.slice (some ⟨b1, o1, none⟩) l.length vc) l rest sm a0 env x ks i (k + 1)) := HPt.out wr k _ _ hk HL.out HLs.out
      have HS4 : ∀ w4, Below wr.drew.heap.size wr.drew w4 → (w4.cell? ⟨rb, k, none⟩ = some (.int .i64 (((i + 1 + (flats (ks.take k)).length : Nat)) : Int)) ∧ w4.cell? ⟨w.heap.size, 0, none⟩ = some (.int .i8 x.kind) ∧ w4.cell? ⟨w.heap.size, 1, none⟩ = some (.int .i64 x.kids) ∧ w4.cell? ⟨w.heap.size, 2, none⟩ = some (.int .i64 x.n) ∧ w4.cell? ⟨w.heap.size, 3, none⟩ = some (.string x.s) ∧ w4.cell? ⟨w.heap.size, 4, none⟩ = some (.string x.t) ∧ w4.cell? ⟨w.heap.size, 5, none⟩ = some (.string x.u) ∧ w4.cell? ⟨w.heap.size, 6, none⟩ = some (.int .i64 x.ln) ∧ w4.cell? ⟨w.heap.size, 7, none⟩ = some (.int .i64 x.co)) := fun w4 hB => by
        have hlt4 : w.heap.size < wr.heap.size := (Array.getElem?_eq_some_iff.1 HL.out.nd).1
        have hc : ∀ q, w4.cell? ⟨w.heap.size, q, none⟩ = wr.cell? ⟨w.heap.size, q, none⟩ := fun q => hB.cell (p := ⟨w.heap.size, q, none⟩) hlt4
        refine ⟨(hB.cell (p := ⟨rb, k, none⟩) hr3).trans hrow, (hc 0).trans n0, (hc 1).trans n1, (hc 2).trans n2, (hc 3).trans n3, (hc 4).trans n4, (hc 5).trans n5, (hc 6).trans n6, (hc 7).trans n7⟩
      have HS5 : Aside (∀ w5, Lg w w5 cb tb (.slice (some ⟨b1, o1, none⟩) l.length vc) ev l env x i (flats ks).length B (.slice (some ⟨rb, 0, none⟩) ks.length rc) (plc ks (i + 1)) → (w5.cell? ⟨rb, k, none⟩ = some (.int .i64 (((i + 1 + (flats (ks.take k)).length : Nat)) : Int)) ∧ w5.cell? ⟨w.heap.size, 0, none⟩ = some (.int .i8 x.kind) ∧ w5.cell? ⟨w.heap.size, 1, none⟩ = some (.int .i64 x.kids) ∧ w5.cell? ⟨w.heap.size, 2, none⟩ = some (.int .i64 x.n) ∧ w5.cell? ⟨w.heap.size, 3, none⟩ = some (.string x.s) ∧ w5.cell? ⟨w.heap.size, 4, none⟩ = some (.string x.t) ∧ w5.cell? ⟨w.heap.size, 5, none⟩ = some (.string x.u) ∧ w5.cell? ⟨w.heap.size, 6, none⟩ = some (.int .i64 x.ln) ∧ w5.cell? ⟨w.heap.size, 7, none⟩ = some (.int .i64 x.co))) := fun w5 hL5 => by
        obtain ⟨rb', e', _, h2, _⟩ := HRow.out w5 k _ _ _ hk hL5
        cases e'
        exact ⟨h2, HNd.out w5 _ _ hL5⟩
      have hxk : x.kids = x.kids := rfl
      clear HPt HI HEnd HNo HCl HLs HL HNd HRow hxk
      generalize i + 1 + (flats (ks.take k)).length = pk at *
      generalize Ck.inner x k env = en at *
      unfold ndA8 at hI
      go_wp2_with fail
      go_region_held3 (fun W => (W.cell? ⟨rb, k, none⟩ = some (.int .i64 (pk : Int)) ∧ W.cell? ⟨w.heap.size, 0, none⟩ = some (.int .i8 x.kind) ∧ W.cell? ⟨w.heap.size, 1, none⟩ = some (.int .i64 x.kids) ∧ W.cell? ⟨w.heap.size, 2, none⟩ = some (.int .i64 x.n) ∧ W.cell? ⟨w.heap.size, 3, none⟩ = some (.string x.s) ∧ W.cell? ⟨w.heap.size, 4, none⟩ = some (.string x.t) ∧ W.cell? ⟨w.heap.size, 5, none⟩ = some (.string x.u) ∧ W.cell? ⟨w.heap.size, 6, none⟩ = some (.int .i64 x.ln) ∧ W.cell? ⟨w.heap.size, 7, none⟩ = some (.int .i64 x.co))) (first | assumption | go_keep) (first | (go_at_call 92; refine hI.mono ?_; rintro e w4 ⟨g4, c4, rfl, hc4, hg4, hi4, hB4⟩; have hs4 := HS4 w4 hB4; have hP5 := HP4.out w4 g4 c4 hB4 hg4 hc4 hi4) | (go_at_call 60; refine hP5.mono ?_; rintro e w5 ⟨rfl, hL5, hL6⟩; have hs5 := HS5.out w5 hL5; have HL5 : Aside _ := hL5; have HL6 : Aside _ := hL6; clear hL5 hL6))
      all_goals
        go_wp2_with fail
        go_roundg (gk - 1)
        case measure => omega
        case rel => exact ⟨k + 1, by omega, by go_num, HL5, HL6⟩
    · obtain rfl : k = ks.length := by omega
      have hk' : ¬ ((ks.length : Nat) : Int) < ((ks.length : Nat) : Int) := by omega
      rcases HEnd.out wr _ _ _ HL.out HLs.out with ⟨q, m2, hq, hE⟩ | ⟨R, m2, hR, hRp, hKs, e1, e2, e3⟩
      · have HE : Aside (KpEnd w cb tb (.slice (some ⟨b1, o1, none⟩) l.length vc) l sm a0 i M RR (.returned (.tuple #[])) wr) := hE
        clear hE HPt HI HEnd HNo HCl HLs HL HNd HRow
        go_wp2_with fail
        refine bodyPost_ret (results_none rfl _ _ _) rfl ?_
        exact HE.out
      · have HCl2 : Aside (∀ w6, Two cb cb wr w6 → (∃ u, w6.cell? ⟨tb, i, none⟩ = some u) ∧ w6.frozen? ⟨tb, i, none⟩ = false) := fun w6 h => HCl.out wr w6 hKs h
        have E1 : Aside _ := e1
        have E2 : Aside _ := e2
        have E3 : Aside _ := e3
        have HRp : Aside _ := hRp
        clear e1 e2 e3 hRp HPt HI HEnd HCl HLs HL HNd HRow hKs
        unfold ndA8 at hR
        go_wp2_with fail
        refine hR.mono ?_
        clear hR m2 n0 n1 n2 n3 n4 n5 n6 n7
        rintro e w6 ⟨h6, h7, s, rfl, h8⟩
        have cty : w6.cell? ⟨cb, 1, none⟩ = some (.slice (some ⟨tb, 0, none⟩) l.length l.length) := h7.ty
        cases R with
        | error q =>
          have m2 : w6.cell? ⟨cb, 2, none⟩ = some (.int .i64 q.1) := h7.er
          have hq : (q.1 == 0) = false := by simpa using HRp.out q rfl
          obtain ⟨⟨u, hu⟩, hf⟩ := HCl2.out w6 h6
          have HE : Aside (KpEnd w cb tb (.slice (some ⟨b1, o1, none⟩) l.length vc) l sm a0 i M RR (.returned (.tuple #[])) (w6.setCell ⟨tb, i, none⟩ (.string s))) := E1.out w6 h6 s q h7 rfl
          clear h6 h7 h8 E1 E2 E3 HRp HCl2 HNo
          go_wp2_with fail
          go_end0
          exact HE.out
        | ok t =>
          have m2 : w6.cell? ⟨cb, 2, none⟩ = some (.int .i64 0) := h7.er
          obtain rfl := h8 t rfl
          by_cases hb : 64 < (enc t).length
          · have hb' : (64 : Int) < ((S (enc t)).size : Int) := by rw [S_size]; omega
            have hno := HNo.out w6 h7
            have HE : Aside (∀ w7, KC w7 cb tb l.length (.slice (some ⟨b1, o1, none⟩) l.length vc) 21 (i : Int) sm → Two cb cb w6 w7 → w7.cell? ⟨cb, 1, none⟩ = some (.slice (some ⟨tb, 0, none⟩) l.length l.length) ∧ ((∃ u, w7.cell? ⟨tb, i, none⟩ = some u) ∧ w7.frozen? ⟨tb, i, none⟩ = false) ∧ ∀ s, KpEnd w cb tb (.slice (some ⟨b1, o1, none⟩) l.length vc) l sm a0 i M RR (.returned (.tuple #[])) (w7.setCell ⟨tb, i, none⟩ (.string s))) := fun w7 k1 k2 => ⟨k1.ty, HCl2.out w7 (h6.trans k2), fun s => E2.out w7 t (h6.trans k2) k1 rfl hb s⟩
            clear h6 h7 h8 E1 E2 E3 HRp HCl2 HNo hb
            generalize S (enc t) = st at *
            go_wp2_with fail
            refine hno.mono ?_
            rintro e w7 ⟨rfl, k1, k2⟩
            obtain ⟨cty7, ⟨⟨u, hu⟩, hf⟩, hE⟩ := HE.out w7 k1 k2
            have HE2 : Aside _ := hE
            clear hno k1 k2 HE hE cty m2
            go_wp2_with fail
            go_end0
            exact HE2.out _
          · have hb' : decide ((64 : Int) < ((S (enc t)).size : Int)) = false := by rw [S_size]; simp; omega
            obtain ⟨⟨u, hu⟩, hf⟩ := HCl2.out w6 h6
            have HE : Aside (KpEnd w cb tb (.slice (some ⟨b1, o1, none⟩) l.length vc) l sm a0 i M RR (.returned (.tuple #[])) (w6.setCell ⟨tb, i, none⟩ (.string (S (enc t))))) := E3.out w6 t h6 h7 rfl (by omega)
            clear h6 h7 h8 E1 E2 E3 HRp HCl2 HNo hb
            generalize S (enc t) = st at *
            go_wp2_with fail
            go_end0
            exact HE.out
end Go.Proofs.YthihnkgjkmaplaaGreatDoor
namespace Go.Proofs.YthihnkgjkmaplaaGreatDoor
open Go.RowKit Ck
open T3.Tp (Ty enc cns met)
open Tr (T Nd nm flat flats)
set_option maxRecDepth 100000
set_option linter.unusedSimpArgs false
set_option linter.unusedVariables false

theorem mem_flats8 {t : T} {ks : List T} (h : t ∈ ks) : ∀ x ∈ flat t, x ∈ flats ks := by
  induction ks with
  | nil => simp at h
  | cons a r ih =>
    intro x hx
    simp only [flats, List.mem_append]
    rcases List.mem_cons.1 h with rfl | h
    · exact .inl hx
    · exact .inr (ih h x hx)
theorem wfs_mem8 {t : T} {ks : List T} (hw : Tr.wfs ks) (h : t ∈ ks) : Tr.wf t := by
  obtain ⟨a, b, rfl⟩ := List.append_of_mem h
  exact wfs_mid8 hw
/-- Part reckons as kdT does. -/
theorem kpart_any {cb tb : Nat} {nv : Value} {l : List Nd} {sm : Bool} {a0 : Int} (hl : l.length ≤ 2000) (hmay : ∀ x ∈ l, Tr.mayB x = true) (hss : ∀ x ∈ l, x.s.size ≤ maxLen) (hcut : ∀ x ∈ l, x.kind = 6 → (Tr.cut32 (nm x)).2.2 = true) : ∀ N, PrtC cb tb nv l sm a0 N
  | 0 => fun t p rest env ev w h1 _ _ _ _ _ _ _ => by have := Tr.flat_pos t; omega
  | N + 1 => fun t p rest env ev w h1 h2 h3 h4 h5 h6 h7 h8 => by
    have hP := kpart_any (cb := cb) (tb := tb) (nv := nv) (sm := sm) (a0 := a0) hl hmay hss hcut N
    obtain ⟨x, ks⟩ := t
    have hx : l[p]? = some x := by have := Tr.at_drop (q := 0) h3; simpa [Tr.flat] using this
    have hxm : x ∈ l := List.mem_of_getElem? hx
    have hin : ∀ y ∈ flat (.nd x ks), y ∈ l := fun y hy => List.mem_of_mem_drop (i := p) (by rw [h3]; exact List.mem_append_left _ hy)
    obtain ⟨κ, hN0⟩ := nod_of (hmay x hxm)
    have hwf := h2
    rw [Tr.wf] at hwf
    have hN : (flats ks).length ≤ N := by rw [flat, List.length_cons] at h1; omega
    have hpos : ∀ j t q r, kdT sm (Ck.inner x j env) t q = .error r → t ∈ ks → r.1 ≠ 0 := fun j t q r h ht => kdT_pos t _ _ r (wfs_mem8 hwf.2 ht) (fun y hy => hmay y (hin y (by rw [flat]; exact List.mem_cons_of_mem _ (mem_flats8 ht y hy)))) h
    have hposR : ∀ kk q, kk.length = ks.length → ruleD sm env x p kk = .error q → q.1 ≠ 0 := fun kk q hk h => ruleD_pos hN0 (by rw [hk]; exact hwf.1) h
    cases ha : Ck.ahead x with
    | true =>
      have hk : x.kind = 5 ∨ x.kind = 6 := by
        unfold Ck.ahead at ha
        simp only [Bool.and_eq_true, Bool.or_eq_true, beq_iff_eq] at ha
        exact ha.1
      have hbig : 64 < (enc (.tf (wr x.t) (wr x.u))).length := by
        unfold Ck.ahead at ha
        simp only [Bool.and_eq_true, decide_eq_true_eq] at ha
        exact ha.2
      have hκ := hN0.kind
      obtain ⟨t1, t2⟩ := note8 (hN0.t (by omega))
      obtain ⟨u1, u2⟩ := note8 (hN0.u (by omega))
      have hr : kdT sm env (.nd x ks) p = .error (21, p) := by rw [kdT, ha]; simp
      rw [hr]
      rcases hk with hk | hk
      · exact kpart_large5 x p _ hx hk t1 t2 u1 u2 hbig h6 h7
      · exact kpart_large6 x p _ hx hk t1 t2 u1 u2 hbig h6 h7
    | false =>
      by_cases k5 : x.kind = 5
      · exact kpart_5 hP hl x κ ks p env hN0 (hss x hxm) (hcut x hxm) h2 h3 hN h4 h5 h6 h7 h8 ha k5 hpos hposR
      by_cases k6 : x.kind = 6
      · exact kpart_6 hP hl x κ ks p env hN0 (hss x hxm) (hcut x hxm) h2 h3 hN h4 h5 h6 h7 h8 ha k6 hpos hposR
      exact kpart_o hP hl x κ ks p env hN0 (hss x hxm) (hcut x hxm) h2 h3 hN h4 h5 h6 h7 h8 ha k5 k6 hpos hposR
end Go.Proofs.YthihnkgjkmaplaaGreatDoor
