/- The document's one: all else. -/
import Derived.Test.YtnhihajhhlilfaaMgbi
import Derived.Test.YtnhihajhhlilfaaMgbn
import Derived.Test.YtnhihajhhlilfaaMgbb
namespace Go.Proofs.Ytnhihajhhlilfaa
open Go.RowKit Co
open T3.Tp (Ty enc cns)
open Tr (T flat flats)
set_option maxRecDepth 100000
set_option linter.unusedSimpArgs false
set_option linter.unusedVariables false

set_option maxHeartbeats 8000000 in
theorem done_loop {wb ab : Nat} {tv : Value} {l : List Tr.Nd} {N : Nat} (hT : TypC wb ab tv l N) (x : Tr.Nd) (ks : List T) (i : Nat) (rest : List Tr.Nd) (env : List Ty) (ev : Value) (w : World) (hx : l[i]? = some x) (htk : takes x = true) (hkk : x.kids = (ks.length : Int)) (hwk : wfsC ks) (hN : (flats ks).length ≤ N) (hd : l.drop (i + 1) = flats ks ++ rest) (hE : EnvOk env) (hen : env.length ≤ 2 * i) (hl : l.length ≤ 100000) (hS : Ws w wb ab tv l) (hk : IsWk w wb tv (avA ab l) (i : Int) 0 0) (hev : Eo w wb ab ev env) (H9 : Dru9) (hκ : x.kind ≠ 1 ∧ x.kind ≠ 2 ∧ x.kind ≠ 3 ∧ x.kind ≠ 4 ∧ x.kind ≠ 5 ∧ x.kind ≠ 6 ∧ x.kind ≠ 8 ∧ x.kind ≠ 30) (hah : ahdD env.length x i = none) :
    Calls Try.prog 69 #[.pointer (some ⟨wb, 0, none⟩), ev] w (DtEnd w wb ab tv l (i + 1 + (flats ks).length) (tyT env (.nd x ks) i)) := by
  obtain ⟨va, vc, rfl⟩ := hS.no.form
  have hil : i < l.length := (List.getElem?_eq_some_iff.1 hx).1
  have hi0 : (0 : Int) ≤ (i : Int) := by omega
  have hil' : (i : Int) < (l.length : Int) := by omega
  obtain ⟨b1, o1, rfl, hlc, hb1, hcx⟩ := hS.no.at hx
  obtain ⟨p0, p1, p2, p3, p4, p5, p6, p7⟩ := agg_cells (o := o1 + i * 8) hcx
  obtain ⟨ea, ec, rfl⟩ := env_form hev.e
  have c0 := (block_cells hk).1 0
  have c1 := (block_cells hk).1 1
  obtain ⟨W1, hW1⟩ : ∃ W1, W1 = w.alloc (.cells (ndA x) 44) := ⟨_, rfl⟩
  obtain ⟨W2, hW2⟩ : ∃ W2, W2 = W1.setCell ⟨wb, 1, none⟩ (.int .i64 ((i : Int) + 1)) := ⟨_, rfl⟩
  obtain ⟨hO, hk1, hk2⟩ := On.mk' (env := env) hW1 hW2 hS hk hev
  have e1 := (block_cells hk1).1 1
  have g1 := (block_cells hk1).2 1
  have q0 : W2.cell? ⟨w.heap.size, 0, none⟩ = some (.int .i8 x.kind) := (block_cells hO.n).1 0
  have q1 : W2.cell? ⟨w.heap.size, 1, none⟩ = some (.int .i64 x.kids) := (block_cells hO.n).1 1
  have q2 : W2.cell? ⟨w.heap.size, 2, none⟩ = some (.int .i64 x.n) := (block_cells hO.n).1 2
  have q3 : W2.cell? ⟨w.heap.size, 3, none⟩ = some (.string x.s) := (block_cells hO.n).1 3
  have q4 : W2.cell? ⟨w.heap.size, 4, none⟩ = some (.string x.t) := (block_cells hO.n).1 4
  have q5 : W2.cell? ⟨w.heap.size, 5, none⟩ = some (.string x.u) := (block_cells hO.n).1 5
  have q6 : W2.cell? ⟨w.heap.size, 6, none⟩ = some (.int .i64 x.ln) := (block_cells hO.n).1 6
  have q7 : W2.cell? ⟨w.heap.size, 7, none⟩ = some (.int .i64 x.co) := (block_cells hO.n).1 7
  have hA := dahead_any x i env.length hk2
  have hlen : env.length ≤ 200000 := by omega
  rw [hah] at hA
  obtain ⟨i0, hi, hz0, hz1, hz2⟩ := info_parts info9
  have hah2 := ahdD_none hah (by omega)
  have hin : inn x env = env := by unfold inn; rw [if_neg (by omega), if_neg (by omega)]
  have hgx : x.kind = 21 → goodB x.t = true := fun h21 => by
    have h := hah2
    unfold ahd at h
    rw [if_neg (by omega), if_neg (by omega), if_neg (by omega), if_neg (by omega), if_pos h21] at h
    split at h
    · assumption
    · cases h
  have HR : Aside (tyT env (.nd x ks) i = match tyL env ks (i + 1) with | .error e => .error e | .ok ts => rul env x i ts) := by
    show _ = _
    rw [tyT_plain10 hah2 (by omega), hin]
    cases tyL env ks (i + 1) <;> rfl
  have hkl : ks.length ≤ 100000 := by
    have a1 := congrArg List.length hd
    have a2 := kids_le ks
    simp at a1; omega
  have z1 : (x.kind == 1) = false := by simpa using hκ.1
  have z2 : (x.kind == 2) = false := by simpa using hκ.2.1
  have z3 : (x.kind == 3) = false := by simpa using hκ.2.2.1
  have z4 : (x.kind == 4) = false := by simpa using hκ.2.2.2.1
  have z5 : (x.kind == 5) = false := by simpa using hκ.2.2.2.2.1
  have z6 : (x.kind == 6) = false := by simpa using hκ.2.2.2.2.2.1
  have z8 : (x.kind == 8) = false := by simpa using hκ.2.2.2.2.2.2.1
  have z30 : (x.kind == 30) = false := by simpa using hκ.2.2.2.2.2.2.2
  have HK : Aside (∀ (t : T) (p : Nat) (r : List Tr.Nd) (wv : World), (flat t).length ≤ N → wfC t → l.drop p = flat t ++ r → i ≤ p → Ws wv wb ab (.slice (some ⟨b1, o1, none⟩) l.length vc) l → Eo wv wb ab (.slice ea env.length ec) env → IsWk wv wb (.slice (some ⟨b1, o1, none⟩) l.length vc) (avA ab l) (p : Int) 0 0 → Calls Try.prog 79 #[.pointer (some ⟨wb, 0, none⟩), .slice ea env.length ec] wv (DtEnd wv wb ab (.slice (some ⟨b1, o1, none⟩) l.length vc) l (p + (flat t).length) (tyT env t p))) := fun t p r wv h1 h2 h3 h4 h5 h6 h7 => dkid_any hT t p r env (.slice ea env.length ec) wv h1 h2 h3 hE (by omega) h5 h7 h6
  have HRU : Aside (∀ ts lv wv a, tyL env ks (i + 1) = .ok ts → IsWk wv wb (.slice (some ⟨b1, o1, none⟩) l.length vc) (avA ab l) a 0 0 → T3.IsTexts wv lv (ts.map enc) → (∀ g, lv.ownBlock = some g → g ≠ wb) → Calls Try.prog 82 #[.pointer (some ⟨wb, 0, none⟩), .agg (ndA x), lv, .int .i64 (i : Int)] wv (DrEnd wv wb (.slice (some ⟨b1, o1, none⟩) l.length vc) (avA ab l) a (rul env x i ts))) := fun ts lv wv a h1 h2 h3 h4 => by
    have hlen := tyL_lenC ks _ _ h1
    exact drule_any H9 x i env ts lv htk (by rw [hlen]; exact hkk) (tyL_len ks env (i + 1) ts hE h1) hgx hκ (by omega) h2 h3 h4
  clear H9
  have HW : Aside (wfsC ks) := hwk
  have HN : Aside ((flats ks).length ≤ N) := hN
  clear hah hah2 hT hwk hE htk hN hin hgx hκ hen
  obtain ⟨J, hJ⟩ : ∃ J, J = i + 1 + (flats ks).length := ⟨_, rfl⟩
  have HJ : Aside (J = i + 1 + (flats ks).length) := hJ
  rw [← hJ]
  clear hJ
  obtain ⟨R, hR⟩ : ∃ R, R = tyT env (.nd x ks) i := ⟨_, rfl⟩
  rw [← hR] at HR ⊢
  clear hR
  have HKK0 : Aside (x.kids = (ks.length : Int)) := hkk
  clear hkk
  have HS : Aside (Ws w wb ab (.slice (some ⟨b1, o1, none⟩) l.length vc) l) := hS
  have HEV : Aside (Eo w wb ab (.slice ea env.length ec) env) := hev
  clear hcx hk1 hk2 hS hk hev hx
  go_enter Try.func69, Try.ntmps69
  go_upto_region 3 with fail
  rw [← hW1]
  clear hW1 p0 p1 p2 p3 p4 p5 p6 p7 c0 c1
  go_upto_region 4 with fail
  rw [← hW2]
  clear hW2 e1 g1
  go_wp2_with fail
  refine hA.mono ?_
  clear hA q0 q1 q2 q3 q4 q5 q6 q7
  rintro e w3 ⟨rfl, hg3, hk3⟩
  replace hO := hO.grown hg3
  clear hg3
  have m2 := (block_cells hk3).1 2
  have q0 : w3.cell? ⟨w.heap.size, 0, none⟩ = some (.int .i8 x.kind) := (block_cells hO.n).1 0
  change w3.cell? ⟨wb, 2, none⟩ = some (.int .i64 0) at m2
  change IsWk w3 wb (.slice (some ⟨b1, o1, none⟩) l.length vc) (avA ab l) ((i + 1 : Nat) : Int) 0 0 at hk3
  have HD0 : Aside (l.drop (i + 1) = flats ks ++ rest) := hd
  clear hd
  go_wp2_with fail
  clear q0 m2 z1 z2 z3 z4 z5 z6 z8 z30
  go_loopg [9, 10] ks.length (fun g s tt wv => ∃ (j : Nat) (xs : List Value), j + g = ks.length ∧ tt = .int .i64 (j : Int) ∧ wv.ownsRow w.heap.size 9 1 s j xs ∧ (∀ g, s.ownBlock = some g → w.heap.size < g) ∧ On w wv wb ab (.slice (some ⟨b1, o1, none⟩) l.length vc) l i x (.slice ea env.length ec) env ∧
    ((∃ (p : Nat) (ts : List Ty), IsWk wv wb (.slice (some ⟨b1, o1, none⟩) l.length vc) (avA ab l) (p : Int) 0 0 ∧ i + 1 ≤ p ∧ Aside (xs = T3.tcells (ts.map enc)) ∧ Aside (p + (flats (ks.drop j)).length = J) ∧ Aside (tyL env ks (i + 1) = addL ts (tyL env (ks.drop j) p)) ∧ Aside (l.drop p = flats (ks.drop j) ++ rest)) ∨
     (∃ (a : Int) (q : Int × Nat), IsWk wv wb (.slice (some ⟨b1, o1, none⟩) l.length vc) (avA ab l) a q.1 (q.2 : Int) ∧ (q.1 == 0) = false ∧ Aside (tyL env ks (i + 1) = .error q))))
  case atStart => exact ⟨0, [], by omega, rfl, own_nil _ _ _ _, (fun g h => by cases h), hO, .inl ⟨i + 1, [], hk3, by omega, rfl, HJ.out.symm, by show _ = _; rw [addL_nil]; rfl, HD0.out⟩⟩
  case round =>
    clear hO hk3 HD0
    obtain ⟨j, xs, hjg, rfl, hown, hnew, hO, hst⟩ := hrel
    obtain ⟨sa, sc, rfl⟩ := own_len hown
    have hj0 : (0 : Int) ≤ (j : Int) := by omega
    have hlt := hO.lt
    have hbb := hO.b
    have q1 : wr.cell? ⟨w.heap.size, 1, none⟩ = some (.int .i64 (ks.length : Int)) := by rw [← HKK0.out]; exact (block_cells hO.n).1 1
    by_cases hj : j < ks.length
    · have hj' : (j : Int) < (ks.length : Int) := by omega
      obtain ⟨tj, htj⟩ : ∃ tj, ks[j]? = some tj := ⟨_, List.getElem?_eq_getElem hj⟩
      have hdj : ks.drop j = tj :: ks.drop (j + 1) := by rw [List.drop_eq_getElem_cons hj, (List.getElem?_eq_some_iff.1 htj).2]
      have hwj : wfC tj := by
        have h := HW.out
        rw [← List.take_append_drop j ks, hdj] at h
        exact ((wfsC_append _ _).1 h).2.1
      have hfe : (flats ks).length = (flats (ks.take j)).length + ((flat tj).length + (flats (ks.drop (j + 1))).length) := by
        conv => lhs; rw [← List.take_append_drop j ks, hdj, Tr.flats_append]
        simp [flats]
      have hC : Calls Try.prog 79 #[.pointer (some ⟨wb, 0, none⟩), .slice ea env.length ec] wr fun e w4 => ∃ s : ByteArray, e = .returned (.string s) ∧ Tw wb ab wr w4 ∧ Ws w4 wb ab (.slice (some ⟨b1, o1, none⟩) l.length vc) l ∧
          ((∃ (p : Nat) (ts : List Ty), IsWk w4 wb (.slice (some ⟨b1, o1, none⟩) l.length vc) (avA ab l) (p : Int) 0 0 ∧ i + 1 ≤ p ∧ Aside (xs ++ [.string s] = T3.tcells (ts.map enc)) ∧ Aside (p + (flats (ks.drop (j + 1))).length = J) ∧ Aside (tyL env ks (i + 1) = addL ts (tyL env (ks.drop (j + 1)) p)) ∧ Aside (l.drop p = flats (ks.drop (j + 1)) ++ rest)) ∨
           (∃ (a : Int) (q : Int × Nat), IsWk w4 wb (.slice (some ⟨b1, o1, none⟩) l.length vc) (avA ab l) a q.1 (q.2 : Int) ∧ (q.1 == 0) = false ∧ Aside (tyL env ks (i + 1) = .error q))) := by
        rcases hst with ⟨p, ts, hk, hip, HX, HPE, HL, HD⟩ | ⟨a, q, hk, hq, HL⟩
        · have hDj := HD.out
          rw [hdj] at hDj
          simp only [flats, List.append_assoc] at hDj
          have hL := HL.out
          rw [hdj] at hL
          have hPE := HPE.out
          rw [hdj] at hPE
          simp only [flats, List.length_append] at hPE
          refine (HK.out tj p _ wr (by have := HN.out; omega) hwj hDj (by omega) hO.s hO.e hk).mono ?_
          cases hr : tyT env tj p with
          | error q =>
            rintro e w4 ⟨ht, hs, ⟨s, rfl⟩, a, hk4⟩
            refine ⟨s, rfl, ht, hs, .inr ⟨a, q, hk4, by simpa using tyT_pos tj _ _ q hwj hr, ?_⟩⟩
            show _ = _
            rw [hL, addL_err hr]
          | ok a =>
            rintro e w4 ⟨ht, hs, rfl, hk4⟩
            refine ⟨_, rfl, ht, hs, .inl ⟨p + (flat tj).length, ts ++ [a], hk4, by omega, ?_, ?_, ?_, ?_⟩⟩
            · show _ = _
              rw [HX.out]
              simp [T3.tcells]
              rfl
            · show _ = _
              omega
            · show _ = _
              rw [hL, addL_ok hr]
            · show _ = _
              rw [← List.drop_drop, hDj, List.drop_left]
        · refine (dkid_bad hk hq (.slice ea env.length ec)).mono ?_
          rintro e w4 ⟨rfl, rfl⟩
          exact ⟨_, rfl, Tw.refl _ _ _, hO.s, .inr ⟨a, q, hk, hq, HL⟩⟩
      clear hst hdj hwj hfe htj
      go_wp2_with fail
      refine hC.mono ?_
      rintro e w4 ⟨s, rfl, ht, hs, hst⟩
      clear hC q1
      have hO4 := hO.next ht hs
      have hown4 : w4.ownsRow w.heap.size 9 1 (.slice sa j sc) j xs := own_keep hown (fun g e => ht.block g (own_lt hown g e) (by have := hnew g e; omega) (by have := hnew g e; omega))
      have hsz := ht.size
      have hz4 := hO4.lt
      clear hO hown ht hs
      have hownA : ∀ ob, (w4.alloc ob).ownsRow w.heap.size 9 1 (.slice sa j sc) j xs := fun ob => hown4.alloc _
      have hnews := cells_list_new w4 [.string s] 9
      have HO5 : Aside (∀ ob w5, (w4.alloc ob).grownBy w5 (Value.ownBlock (.slice sa j sc)) → On w w5 wb ab (.slice (some ⟨b1, o1, none⟩) l.length vc) l i x (.slice ea env.length ec) env ∧ ∀ a e n, IsWk w4 wb (.slice (some ⟨b1, o1, none⟩) l.length vc) (avA ab l) a e n → IsWk w5 wb (.slice (some ⟨b1, o1, none⟩) l.length vc) (avA ab l) a e n) := fun ob w5 hg => by
        have hb5 : ∀ k, k ≤ w.heap.size → w5.heap[k]? = w4.heap[k]? := fun k hk => by
          rw [hg.block k (by simp; omega) (fun e => by have := hnew k e.symm; omega)]
          exact Below.heap_alloc _ _ _ (by omega)
        have htw : Tw wb ab w w5 := ⟨hg.os.trans hO4.tw.os, hg.tape.trans hO4.tw.tape, hg.output.trans hO4.tw.output, by have := hg.size; simp at this; omega, fun k hk ha hb => (hb5 k (by omega)).trans (hO4.tw.block k hk ha hb)⟩
        obtain ⟨xs', ho⟩ := hO4.s.all
        exact ⟨⟨htw, HS.out.tw htw ⟨xs', own_keep ho (fun g e => by cases e; exact hb5 ab (by omega))⟩, HEV.out.tw htw, (hb5 _ (Nat.le_refl _)).trans hO4.n, hO4.b⟩, fun a e n h => (hb5 wb (by omega)).trans h⟩
      go_wp2_with (at_builtin; go_must (refine wpList_append_ne _ rfl _ _ 56 rfl w.heap.size 9 i0 _ 16 tyTexts hi hz0 hz1 hz2 rfl (.slice sa j sc) j xs rfl (hownA _) ⟨w4.heap.size, 0, none⟩ 1 1 (by decide) [.string s] rfl rfl hnews (by intro u hu; simp at hu; subst hu; rfl) (by unfold maxLen; omega) (by omega) (by simp; omega) ?_); intro g5 c5 w5 hown5 hg5 hne5)
      obtain ⟨hO5, HKK⟩ := HO5.out _ w5 hg5
      have hst5 : ((∃ (p : Nat) (ts : List Ty), IsWk w5 wb (.slice (some ⟨b1, o1, none⟩) l.length vc) (avA ab l) (p : Int) 0 0 ∧ i + 1 ≤ p ∧ Aside (xs ++ [.string s] = T3.tcells (ts.map enc)) ∧ Aside (p + (flats (ks.drop (j + 1))).length = J) ∧ Aside (tyL env ks (i + 1) = addL ts (tyL env (ks.drop (j + 1)) p)) ∧ Aside (l.drop p = flats (ks.drop (j + 1)) ++ rest)) ∨
           (∃ (a : Int) (q : Int × Nat), IsWk w5 wb (.slice (some ⟨b1, o1, none⟩) l.length vc) (avA ab l) a q.1 (q.2 : Int) ∧ (q.1 == 0) = false ∧ Aside (tyL env ks (i + 1) = .error q))) := by
        rcases hst with ⟨p, ts, hk, h⟩ | ⟨a, q, hk, h⟩
        · exact .inl ⟨p, ts, HKK _ _ _ hk, h⟩
        · exact .inr ⟨a, q, HKK _ _ _ hk, h⟩
      have hnew5 : ∀ g, Value.ownBlock (.slice (some ⟨g5, 0, none⟩) (j + 1) c5) = some g → w.heap.size < g := fun g e => by
        cases e
        rcases hne5 with h | h
        · exact hnew g5 h
        · simp at h; show w.heap.size < g5; omega
      clear hst HKK HO5 hg5 hne5 hown4 hownA hnews hO4
      go_wp2_with fail
      go_roundg (gk - 1)
      case measure => omega
      case rel => exact ⟨j + 1, xs ++ [.string s], by omega, by go_num, hown5, hnew5, hO5, hst5⟩
    · have hj' : ¬ (j : Int) < (ks.length : Int) := by omega
      obtain rfl : j = ks.length := by omega
      have q0 : wr.cell? ⟨w.heap.size, 0, none⟩ = some (.int .i8 x.kind) := (block_cells hO.n).1 0
      have q2 : wr.cell? ⟨w.heap.size, 2, none⟩ = some (.int .i64 x.n) := (block_cells hO.n).1 2
      have q3 : wr.cell? ⟨w.heap.size, 3, none⟩ = some (.string x.s) := (block_cells hO.n).1 3
      have q4 : wr.cell? ⟨w.heap.size, 4, none⟩ = some (.string x.t) := (block_cells hO.n).1 4
      have q5 : wr.cell? ⟨w.heap.size, 5, none⟩ = some (.string x.u) := (block_cells hO.n).1 5
      have q6 : wr.cell? ⟨w.heap.size, 6, none⟩ = some (.int .i64 x.ln) := (block_cells hO.n).1 6
      have q7 : wr.cell? ⟨w.heap.size, 7, none⟩ = some (.int .i64 x.co) := (block_cells hO.n).1 7
      rcases hst with ⟨p, ts, hk, hip, HX, HPE, HL, HD⟩ | ⟨a, q, hk, hq, HL⟩
      · have hp : p = J := by have := HPE.out; simp [flats] at this; omega
        subst hp
        have hL := HL.out
        rw [List.drop_length, addL_end] at hL
        have hlen := tyL_lenC ks _ _ hL
        have htx : T3.IsTexts wr (.slice sa ks.length sc) (ts.map enc) := T3.IsTexts.own (base := w.heap.size) (by rw [List.length_map, hlen, ← HX.out]; exact hown)
        have m2 : wr.cell? ⟨wb, 2, none⟩ = some (.int .i64 0) := (block_cells hk).1 2
        have hC := HRU.out ts _ wr _ hL hk htx (fun g e => by have := hnew g e; omega)
        have HE : Aside (∀ e w', DrEnd wr wb (.slice (some ⟨b1, o1, none⟩) l.length vc) (avA ab l) (p : Int) (rul env x i ts) e w' → DtEnd w wb ab (.slice (some ⟨b1, o1, none⟩) l.length vc) l p R e w') := fun e w' h => by
          rw [HR.out, hL]
          exact DtEnd.rule hO.tw hO.s h
        unfold ndA at hC
        rw [HKK0.out] at hC
        clear HR HRU HX HPE HL HD hL hk htx hO hown hnew HK HW HN HJ
        go_wp2_with fail
        refine hC.mono ?_
        clear hC
        intro e w6 h6
        replace h6 := HE.out e w6 h6
        obtain ⟨s, rfl⟩ := h6.ret
        clear HE
        go_wp2_with fail
        go_ret
        exact h6
      · have hq' : (q.1 != 0) = true := by simpa [bne] using hq
        have m2 := (block_cells hk).1 2
        have HE : Aside (∀ s, DtEnd w wb ab (.slice (some ⟨b1, o1, none⟩) l.length vc) l J R (.returned (.string s)) wr) := fun s => by
          rw [HR.out, HL.out]
          exact ⟨hO.tw, hO.s, ⟨s, rfl⟩, a, hk⟩
        clear HR HRU HL hk hO hown hnew HK HW HN HJ
        go_wp2_with fail
        go_ret
        exact HE.out _
end Go.Proofs.Ytnhihajhhlilfaa
