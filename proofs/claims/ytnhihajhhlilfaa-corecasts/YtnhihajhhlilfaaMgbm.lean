/- The document's one: Let. The document's rule: Call. The document's rule: Cons. -/
import Derived.Test.YtnhihajhhlilfaaMgbi
import Derived.Test.YtnhihajhhlilfaaMgbh
import Derived.BigQuiet
namespace Go.Proofs.Ytnhihajhhlilfaa
open Go.RowKit Co
open T3.Tp (Ty enc cns)
open Tr (T flat flats)
set_option maxRecDepth 100000
set_option linter.unusedSimpArgs false
set_option linter.unusedVariables false

set_option maxHeartbeats 8000000 in
theorem done_8 {wb ab : Nat} {tv : Value} {l : List Tr.Nd} {N : Nat} (hT : TypC wb ab tv l N) (x : Tr.Nd) (ks : List T) (i : Nat) (rest : List Tr.Nd) (env : List Ty) (ev : Value) (w : World) (hx : l[i]? = some x) (htk : takes x = true) (hkk : x.kids = (ks.length : Int)) (hwk : wfsC ks) (hN : (flats ks).length ≤ N) (hd : l.drop (i + 1) = flats ks ++ rest) (hE : EnvOk env) (hen : env.length ≤ 2 * i) (hl : l.length ≤ 100000) (hS : Ws w wb ab tv l) (hk : IsWk w wb tv (avA ab l) (i : Int) 0 0) (hev : Eo w wb ab ev env) (hκ : x.kind = 8) (hah : ahdD env.length x i = none) :
    Calls Try.prog 69 #[.pointer (some ⟨wb, 0, none⟩), ev] w (DtEnd w wb ab tv l (i + 1 + (flats ks).length) (tyT env (.nd x ks) i)) := by
  obtain ⟨va, vc, rfl⟩ := hS.no.form
  have hil : i < l.length := (List.getElem?_eq_some_iff.1 hx).1
  have hi0 : (0 : Int) ≤ (i : Int) := by omega
  have hil' : (i : Int) < (l.length : Int) := by omega
  obtain ⟨b1, o1, rfl, hlc, hb1, hcx⟩ := hS.no.at hx
  obtain ⟨p0, p1, p2, p3, p4, p5, p6, p7⟩ := agg_cells (o := o1 + i * 8) hcx
  obtain ⟨ea, ec, rfl⟩ := env_form hev.e
  have c0 := (block_cells hk).1 0
  have c1 := (block_cells hk).1 1
  obtain ⟨W1, hW1⟩ : ∃ W1, W1 = w.alloc (.cells (ndA x) 44) := ⟨_, rfl⟩
  obtain ⟨W2, hW2⟩ : ∃ W2, W2 = W1.setCell ⟨wb, 1, none⟩ (.int .i64 ((i : Int) + 1)) := ⟨_, rfl⟩
  obtain ⟨hO, hk1, hk2⟩ := On.mk' (env := env) hW1 hW2 hS hk hev
  have e1 := (block_cells hk1).1 1
  have g1 := (block_cells hk1).2 1
  have q0 : W2.cell? ⟨w.heap.size, 0, none⟩ = some (.int .i8 x.kind) := (block_cells hO.n).1 0
  have q1 : W2.cell? ⟨w.heap.size, 1, none⟩ = some (.int .i64 x.kids) := (block_cells hO.n).1 1
  have q2 : W2.cell? ⟨w.heap.size, 2, none⟩ = some (.int .i64 x.n) := (block_cells hO.n).1 2
  have q3 : W2.cell? ⟨w.heap.size, 3, none⟩ = some (.string x.s) := (block_cells hO.n).1 3
  have q4 : W2.cell? ⟨w.heap.size, 4, none⟩ = some (.string x.t) := (block_cells hO.n).1 4
  have q5 : W2.cell? ⟨w.heap.size, 5, none⟩ = some (.string x.u) := (block_cells hO.n).1 5
  have q6 : W2.cell? ⟨w.heap.size, 6, none⟩ = some (.int .i64 x.ln) := (block_cells hO.n).1 6
  have q7 : W2.cell? ⟨w.heap.size, 7, none⟩ = some (.int .i64 x.co) := (block_cells hO.n).1 7
  have hA := dahead_any x i env.length hk2
  have hlen : env.length ≤ 200000 := by omega
  rw [hah] at hA
  obtain ⟨k, m, rfl⟩ := kid_two htk hkk hκ (by decide)
  have hfl : flats [k, m] = flat k ++ flat m := by simp [flats]
  have hah2 := ahdD_none hah (by omega)
  have HR : Aside (tyT env (.nd x [k, m]) i = match tyT env k (i + 1) with | .error e => .error e | .ok a => tyT (a :: env) m (i + 1 + (flat k).length)) := by
    show _ = _
    rw [tyT, hah2]
    simp only [hκ, if_true]
    rw [tyB]
    cases tyT env k (i + 1) with
    | error e => rfl
    | ok a => show tyC (a :: env) [m] _ = _; rw [tyC]
  rw [hfl] at hN hd ⊢
  rw [List.length_append] at hN ⊢
  rw [List.append_assoc] at hd
  have hd2 : l.drop (i + 1 + (flat k).length) = flat m ++ rest := by rw [← List.drop_drop, hd, List.drop_left]
  have HK : Aside (∀ w3, On w w3 wb ab (.slice (some ⟨b1, o1, none⟩) l.length vc) l i x (.slice ea env.length ec) env → IsWk w3 wb (.slice (some ⟨b1, o1, none⟩) l.length vc) (avA ab l) ((i + 1 : Nat) : Int) 0 0 → Calls Try.prog 79 #[.pointer (some ⟨wb, 0, none⟩), .slice ea env.length ec] w3 (DtEnd w3 wb ab (.slice (some ⟨b1, o1, none⟩) l.length vc) l (i + 1 + (flat k).length) (tyT env k (i + 1)))) := fun w3 hO hk3 => dkid_any hT k (i + 1) (flat m ++ rest) env (.slice ea env.length ec) w3 (by omega) hwk.1 hd hE (by omega) hO.s hk3 hO.e
  have HP : Aside (∀ q, tyT env k (i + 1) = .error q → q.1 ≠ 0) := fun q h => tyT_pos k _ _ q hwk.1 h
  have HU : Aside (∀ a, tyT env k (i + 1) = .ok a → ∀ w4, On w w4 wb ab (.slice (some ⟨b1, o1, none⟩) l.length vc) l i x (.slice ea env.length ec) env → ∀ (W : World) (n : Nat), W = w4.alloc (.cells #[.string (S (enc a))] 9) → n = w4.heap.size → Calls Try.prog 81 #[.slice ea env.length ec, .slice (some ⟨n, 0, none⟩) 1 1] W fun e w' => ∃ v, e = .returned v ∧ Eo w' wb ab v (a :: env) ∧ Below w4.heap.size w4 w') := fun a ha w4 hO => dunder_lit [a] env (by simp) (by simp; omega) (by have := hO.b; have := hO.lt; omega) (by have := hO.b; have := hO.lt; omega) hO.e
  have HM : Aside (∀ a, tyT env k (i + 1) = .ok a → ∀ w4 v, Ws w4 wb ab (.slice (some ⟨b1, o1, none⟩) l.length vc) l → Eo w4 wb ab v (a :: env) → IsWk w4 wb (.slice (some ⟨b1, o1, none⟩) l.length vc) (avA ab l) ((i + 1 + (flat k).length : Nat) : Int) 0 0 → Calls Try.prog 79 #[.pointer (some ⟨wb, 0, none⟩), v] w4 (DtEnd w4 wb ab (.slice (some ⟨b1, o1, none⟩) l.length vc) l (i + 1 + (flat k).length + (flat m).length) (tyT (a :: env) m (i + 1 + (flat k).length)))) := fun a ha w4 v h1 h2 h3 => dkid_any hT m (i + 1 + (flat k).length) rest (a :: env) v w4 (by omega) hwk.2.1 hd2 (fun t ht => by
      rcases List.mem_cons.1 ht with rfl | ht
      · exact tyT_len k env (i + 1) _ hE ha
      · exact hE t ht) (by simp; omega) h1 h3 h2
  rw [← Nat.add_assoc]
  obtain ⟨R, hR⟩ : ∃ R, R = tyT env (.nd x [k, m]) i := ⟨_, rfl⟩
  rw [← hR] at HR ⊢
  clear hR hah hah2 hT hwk hd hE htk hkk hN hd2
  obtain ⟨J, hJ⟩ : ∃ J, J = i + 1 + (flat k).length := ⟨_, rfl⟩
  rw [← hJ] at HK HM HR ⊢
  clear hJ
  generalize tyT env k (i + 1) = r at *
  have HKI : Aside (x.kind = 8) := hκ
  clear hκ
  clear hcx hk1 hk2 hS hk hev hx
  go_enter Try.func69, Try.ntmps69
  go_upto_region 3 with fail
  rw [← hW1]
  clear hW1 p0 p1 p2 p3 p4 p5 p6 p7 c0 c1
  go_upto_region 4 with fail
  rw [← hW2]
  clear hW2 e1 g1
  go_wp2_with fail
  refine hA.mono ?_
  clear hA q0 q1 q2 q3 q4 q5 q6 q7
  rintro e w3 ⟨rfl, hg3, hk3⟩
  replace hO := hO.grown hg3
  clear hg3
  have m2 := (block_cells hk3).1 2
  have hκ := HKI.out
  have q0 : w3.cell? ⟨w.heap.size, 0, none⟩ = some (.int .i8 x.kind) := (block_cells hO.n).1 0
  rw [hκ] at q0
  have hC := HK.out w3 hO hk3
  change w3.cell? ⟨wb, 2, none⟩ = some (.int .i64 0) at m2
  clear hk3 hκ HK
  go_wp2_with fail
  refine hC.mono ?_
  clear hC q0 m2
  cases r with
  | error q =>
    have h0 : (q.1 != 0) = true := by simpa using HP.out q rfl
    rintro e w4 ⟨ht, hs, ⟨s, rfl⟩, a, hk⟩
    have m2 := (block_cells hk).1 2
    replace hO := hO.next ht hs
    have HE : Aside (∀ s, DtEnd w wb ab (.slice (some ⟨b1, o1, none⟩) l.length vc) l (J + (flat m).length) R (.returned (.string s)) w4) := fun s => by rw [HR.out]; exact ⟨hO.tw, hs, ⟨s, rfl⟩, a, hk⟩
    clear ht hs hk HR HP HU HM hO
    go_wp2_with fail
    go_ret
    exact HE.out _
  | ok a =>
    rintro e w4 ⟨ht, hs, rfl, hk⟩
    have m2 : w4.cell? ⟨wb, 2, none⟩ = some (.int .i64 0) := (block_cells hk).1 2
    replace hO := hO.next ht hs
    have hU := HU.out a rfl w4 hO
    have HM2 : Aside (∀ w5 v, Below w4.heap.size w4 w5 → Eo w5 wb ab v (a :: env) → Calls Try.prog 79 #[.pointer (some ⟨wb, 0, none⟩), v] w5 (DtEnd w wb ab (.slice (some ⟨b1, o1, none⟩) l.length vc) l (J + (flat m).length) R)) := fun w5 v hB hv => by
      rw [HR.out]
      exact (HM.out a rfl w5 v (hs.below hB) hv (hk.below hB)).mono fun e w' h => h.trans (hO.tw.trans (Tw.below hB wb ab))
    clear ht hs hk HR HP HU HM hO
    generalize S (enc a) = sa at *
    go_wp2_with fail
    go_at_call 81
    refine (hU _ _ rfl (by first | rfl | omega | simp)).mono ?_
    rintro e w5 ⟨v5, rfl, hE5, hB5⟩
    have hC := HM2.out w5 v5 hB5 hE5
    clear hU HM2 hE5 hB5 m2
    go_wp2_with fail
    refine hC.mono ?_
    clear hC
    intro e w6 h6
    obtain ⟨s, rfl⟩ := h6.ret
    go_wp2_with fail
    go_ret
    exact h6
end Go.Proofs.Ytnhihajhhlilfaa
namespace Go.Proofs.Ytnhihajhhlilfaa
open Go.RowKit Co
open T3.Tp (Ty enc cns)
set_option maxRecDepth 100000
set_option linter.unusedSimpArgs false
set_option linter.unusedVariables false

set_option maxHeartbeats 2000000 in
theorem dru7 {w : World} {wb : Nat} {tv av : Value} {a : Int} (x : Tr.Nd) (i : Nat) (env : List Ty) (b o c : Nat) (t0 t1 : Ty) (z0 : (enc t0).length ≤ 64) (z1 : (enc t1).length ≤ 64) (hc : 2 ≤ c) (h : IsWk w wb tv av a 0 0) (hb : b < w.heap.size) (ht : ∀ j t, [t0, t1][j]? = some t → w.cell? ⟨b, o + j, none⟩ = some (.string (S (enc t)))) (hne : b ≠ wb) (hκ : x.kind = 7) :
    Calls Try.prog 82 #[.pointer (some ⟨wb, 0, none⟩), .agg (ndA x), .slice (some ⟨b, o, none⟩) 2 c, .int .i64 (i : Int)] w (DrEnd w wb tv av a (rul env x i [t0, t1])) := by
  have hR := Rt.mk' x h hb ht hne
  obtain ⟨W1, hW1⟩ : ∃ W1, W1 = w.alloc (.cells (ndA x) 44) := ⟨_, rfl⟩
  rw [← hW1] at hR
  have k0 : W1.cell? ⟨w.heap.size, 0, none⟩ = some (.int .i8 x.kind) := (block_cells hR.ah.n).1 0
  have k4 : W1.cell? ⟨w.heap.size, 4, none⟩ = some (.string x.t) := (block_cells hR.ah.n).1 4
  rw [hκ] at k0
  have p0 : W1.cell? ⟨b, o, none⟩ = some (.string (S (enc t0))) := hR.tx 0 t0 rfl
  have p1 : W1.cell? ⟨b, o + 1, none⟩ = some (.string (S (enc t1))) := hR.tx 1 t1 rfl
  have hw0 := fun k => want0_any (w := W1) wb k
  have hw1 := want1_any hR.ah.k (i : Int)
  have hw0 : ∀ (w : World) k, _ := fun w k => want0_any (w := w) wb k
  have hw1d := want1_drew hR.ah.k (i : Int)
  have hcs : (∃ A B : Ty, t0 = .tf A B) ∨ ((((T3.Tp.hd t0).toNat : Int) != 62) = true ∧ rul env x i [t0, t1] = .error (23, i)) := by
    clear p0 p1 ht hR hw0 hw1d hw1 h
    cases t0 <;> first | (left; exact ⟨_, rfl⟩) | (left; exact ⟨_, _, rfl⟩) | (right; refine ⟨rfl, ?_⟩; unfold rul; simp [hκ])
  clear hw1
  rcases hcs with ⟨A, B, ht0⟩ | ⟨hd0, hr⟩
  · have hp0 := dpart_yes t0 z0 62 0 A (by rw [ht0]; rfl) (by rw [ht0]; rfl)
    have hp1 := dpart_yes t0 z0 62 1 B (by rw [ht0]; rfl) (by rw [ht0]; rfl)
    have hq := Sx_eq A t1
    by_cases hA : A = t1
    · rw [show decide (A = t1) = true by simpa using hA] at hq
      have hr : rul env x i [t0, t1] = .ok (B) := by rw [ht0]; unfold rul; simp [hκ, hA]
      have HE : Aside (DrEnd w wb tv av a (rul env x i [t0, t1]) (.returned (.string (S (enc (B))))) W1.drew) := hR.good_drew hr rfl

      clear hr hR h ht hκ hw1d hA ht0 z0 z1
      generalize S (enc t0) = u0 at *
      generalize S (enc t1) = u1 at *
      generalize S (enc A) = uA at *
      generalize S (enc B) = uB at *
      go_enter Try.func82, Try.ntmps82
      go_upto_region 1 with fail
      try rw [← hW1]
      clear hW1
      go_wp2_with fail
      go_region_with (first | (go_at_call 92; refine (hp0 _).mono ?_; rintro e w1 ⟨rfl, hw1⟩; replace hw1 := hw1.symm; subst hw1) | (go_at_call 80; refine (hw0 _ _).mono ?_; rintro e w2 ⟨rfl, hw2⟩; replace hw2 := hw2.symm; subst hw2))
      all_goals
        go_wp2_with fail
        refine (hp1 _).mono ?_
        rintro e w3 ⟨rfl, rfl⟩
        go_wp2_with fail
        go_ret
        exact HE.out

    · rw [show decide (A = t1) = false by simpa using hA] at hq
      have hA' : ¬ t1 = A := fun e => hA e.symm
      have hr : rul env x i [t0, t1] = .error (23, i) := by rw [ht0]; unfold rul; simp [hκ, hA']
      have HB := hR.bad hr
      have HP : Aside (∀ w1, Fld W1 wb tv av a 23 (i : Int) w1 → w1.cell? ⟨b, o, none⟩ = some (.string (S (enc t0)))) := fun w1 hF => hF.1.cell p0 (by simp; exact hne)
      have HP1 : Aside (∀ w1, Fld W1 wb tv av a 23 (i : Int) w1 → w1.cell? ⟨b, o + 1, none⟩ = some (.string (S (enc t1)))) := fun w1 hF => hF.1.cell p1 (by simp; exact hne)
      clear hr hR h ht hκ hw0 hA hA' ht0 z0 z1
      generalize S (enc t0) = u0 at *
      generalize S (enc t1) = u1 at *
      generalize S (enc A) = uA at *
      generalize S (enc B) = uB at *
      go_enter Try.func82, Try.ntmps82
      go_upto_region 1 with fail
      try rw [← hW1]
      clear hW1
      go_wp2_with fail
      go_region_with (first | (go_at_call 92; refine (hp0 _).mono ?_; rintro e w1 ⟨rfl, hw1⟩; replace hw1 := hw1.symm; subst hw1) | (go_at_call 80; refine hw1d.mono ?_; rintro e w2 ⟨rfl, hF⟩; have hE := fun s => HB w2 s hF; have p0' := HP.out w2 hF; have p1' := HP1.out w2 hF; clear hF))
      all_goals
        go_wp2_with fail
        refine (hp1 _).mono ?_
        rintro e w3 ⟨rfl, rfl⟩
        go_wp2_with fail
        go_ret
        exact hE _

  · have hp0 := fun w => dpart_no t0 62 0 hd0 w
    have hp1 := fun w => dpart_no t0 62 1 hd0 w
    have hq := none_ne t1
    have HB := hR.bad hr
    have HP : Aside (∀ w1, Fld W1 wb tv av a 23 (i : Int) w1 → w1.cell? ⟨b, o, none⟩ = some (.string (S (enc t0)))) := fun w1 hF => hF.1.cell p0 (by simp; exact hne)
    have HP1 : Aside (∀ w1, Fld W1 wb tv av a 23 (i : Int) w1 → w1.cell? ⟨b, o + 1, none⟩ = some (.string (S (enc t1)))) := fun w1 hF => hF.1.cell p1 (by simp; exact hne)
    clear hr hR h ht hκ hw0 z0 z1 hd0
    generalize S (enc t0) = u0 at *
    generalize S (enc t1) = u1 at *
    go_enter Try.func82, Try.ntmps82
    go_upto_region 1 with fail
    try rw [← hW1]
    clear hW1
    go_wp2_with fail
    go_region_with (first | (go_at_call 92; refine (hp0 _).mono ?_; rintro e w1 ⟨rfl, hw1⟩; replace hw1 := hw1.symm; subst hw1) | (go_at_call 80; refine hw1d.mono ?_; rintro e w2 ⟨rfl, hF⟩; have hE := fun s => HB w2 s hF; have p0' := HP.out w2 hF; have p1' := HP1.out w2 hF; clear hF))
    all_goals
      go_wp2_with fail
      refine (hp1 _).mono ?_
      rintro e w3 ⟨rfl, rfl⟩
      go_wp2_with fail
      go_ret
      exact hE _

end Go.Proofs.Ytnhihajhhlilfaa
namespace Go.Proofs.Ytnhihajhhlilfaa
open Go.RowKit Co
open T3.Tp (Ty enc cns)
set_option maxRecDepth 100000
set_option linter.unusedSimpArgs false
set_option linter.unusedVariables false

set_option maxHeartbeats 2000000 in
theorem dru25 {w : World} {wb : Nat} {tv av : Value} {a : Int} (x : Tr.Nd) (i : Nat) (env : List Ty) (b o c : Nat) (t0 t1 : Ty) (z0 : (enc t0).length ≤ 64) (z1 : (enc t1).length ≤ 64) (hc : 2 ≤ c) (h : IsWk w wb tv av a 0 0) (hb : b < w.heap.size) (ht : ∀ j t, [t0, t1][j]? = some t → w.cell? ⟨b, o + j, none⟩ = some (.string (S (enc t)))) (hne : b ≠ wb) (hκ : x.kind = 25) :
    Calls Try.prog 82 #[.pointer (some ⟨wb, 0, none⟩), .agg (ndA x), .slice (some ⟨b, o, none⟩) 2 c, .int .i64 (i : Int)] w (DrEnd w wb tv av a (rul env x i [t0, t1])) := by
  have hR := Rt.mk' x h hb ht hne
  obtain ⟨W1, hW1⟩ : ∃ W1, W1 = w.alloc (.cells (ndA x) 44) := ⟨_, rfl⟩
  rw [← hW1] at hR
  have k0 : W1.cell? ⟨w.heap.size, 0, none⟩ = some (.int .i8 x.kind) := (block_cells hR.ah.n).1 0
  have k4 : W1.cell? ⟨w.heap.size, 4, none⟩ = some (.string x.t) := (block_cells hR.ah.n).1 4
  rw [hκ] at k0
  have p0 : W1.cell? ⟨b, o, none⟩ = some (.string (S (enc t0))) := hR.tx 0 t0 rfl
  have p1 : W1.cell? ⟨b, o + 1, none⟩ = some (.string (S (enc t1))) := hR.tx 1 t1 rfl
  have hw0 := fun k => want0_any (w := W1) wb k
  have hw1 := want1_any hR.ah.k (i : Int)
  have hw0 : ∀ (w : World) k, _ := fun w k => want0_any (w := w) wb k
  have hw1d := want1_drew hR.ah.k (i : Int)
  have hcs : (∃ A : Ty, t1 = .tl A) ∨ ((((T3.Tp.hd t1).toNat : Int) != 108) = true ∧ rul env x i [t0, t1] = .error (23, i)) := by
    clear p0 p1 ht hR hw0 hw1d hw1 h
    cases t1 <;> first | (left; exact ⟨_, rfl⟩) | (left; exact ⟨_, _, rfl⟩) | (right; refine ⟨rfl, ?_⟩; unfold rul; simp [hκ])
  clear hw1
  rcases hcs with ⟨A, ht0⟩ | ⟨hd0, hr⟩
  · have hp0 := dpart_yes t1 z1 108 0 A (by rw [ht0]; rfl) (by rw [ht0]; rfl)

    have hq := Sx_eq A t0
    by_cases hA : A = t0
    · rw [show decide (A = t0) = true by simpa using hA] at hq
      have hr : rul env x i [t0, t1] = .ok (.tl A) := by rw [ht0]; unfold rul; simp [hκ, hA]
      have HE : Aside (DrEnd w wb tv av a (rul env x i [t0, t1]) (.returned (.string (S (enc (.tl A))))) W1.drew) := hR.good_drew hr rfl
      rw [← ht0] at HE
      clear hr hR h ht hκ hw1d hA ht0 z0 z1
      generalize S (enc t0) = u0 at *
      generalize S (enc t1) = u1 at *
      generalize S (enc A) = uA at *

      go_enter Try.func82, Try.ntmps82
      go_upto_region 1 with fail
      try rw [← hW1]
      clear hW1
      go_wp2_with fail
      go_region_with (first | (go_at_call 92; refine (hp0 _).mono ?_; rintro e w1 ⟨rfl, hw1⟩; replace hw1 := hw1.symm; subst hw1) | (go_at_call 80; refine (hw0 _ _).mono ?_; rintro e w2 ⟨rfl, hw2⟩; replace hw2 := hw2.symm; subst hw2))
      all_goals
        go_wp2_with fail
        go_ret
        exact HE.out

    · rw [show decide (A = t0) = false by simpa using hA] at hq
      have hA' : ¬ t0 = A := fun e => hA e.symm
      have hr : rul env x i [t0, t1] = .error (23, i) := by rw [ht0]; unfold rul; simp [hκ, hA']
      have HB := hR.bad hr
      have HP : Aside (∀ w1, Fld W1 wb tv av a 23 (i : Int) w1 → w1.cell? ⟨b, o, none⟩ = some (.string (S (enc t0)))) := fun w1 hF => hF.1.cell p0 (by simp; exact hne)
      have HP1 : Aside (∀ w1, Fld W1 wb tv av a 23 (i : Int) w1 → w1.cell? ⟨b, o + 1, none⟩ = some (.string (S (enc t1)))) := fun w1 hF => hF.1.cell p1 (by simp; exact hne)
      clear hr hR h ht hκ hw0 hA hA' ht0 z0 z1
      generalize S (enc t0) = u0 at *
      generalize S (enc t1) = u1 at *
      generalize S (enc A) = uA at *

      go_enter Try.func82, Try.ntmps82
      go_upto_region 1 with fail
      try rw [← hW1]
      clear hW1
      go_wp2_with fail
      go_region_with (first | (go_at_call 92; refine (hp0 _).mono ?_; rintro e w1 ⟨rfl, hw1⟩; replace hw1 := hw1.symm; subst hw1) | (go_at_call 80; refine hw1d.mono ?_; rintro e w2 ⟨rfl, hF⟩; have hE := fun s => HB w2 s hF; have p0' := HP.out w2 hF; have p1' := HP1.out w2 hF; clear hF))
      all_goals
        go_wp2_with fail
        go_ret
        exact hE _

  · have hp0 := fun w => dpart_no t1 108 0 hd0 w

    have hq := none_ne t0
    have HB := hR.bad hr
    have HP : Aside (∀ w1, Fld W1 wb tv av a 23 (i : Int) w1 → w1.cell? ⟨b, o, none⟩ = some (.string (S (enc t0)))) := fun w1 hF => hF.1.cell p0 (by simp; exact hne)
    have HP1 : Aside (∀ w1, Fld W1 wb tv av a 23 (i : Int) w1 → w1.cell? ⟨b, o + 1, none⟩ = some (.string (S (enc t1)))) := fun w1 hF => hF.1.cell p1 (by simp; exact hne)
    clear hr hR h ht hκ hw0 z0 z1 hd0
    generalize S (enc t0) = u0 at *
    generalize S (enc t1) = u1 at *
    go_enter Try.func82, Try.ntmps82
    go_upto_region 1 with fail
    try rw [← hW1]
    clear hW1
    go_wp2_with fail
    go_region_with (first | (go_at_call 92; refine (hp0 _).mono ?_; rintro e w1 ⟨rfl, hw1⟩; replace hw1 := hw1.symm; subst hw1) | (go_at_call 80; refine hw1d.mono ?_; rintro e w2 ⟨rfl, hF⟩; have hE := fun s => HB w2 s hF; have p0' := HP.out w2 hF; have p1' := HP1.out w2 hF; clear hF))
    all_goals
      go_wp2_with fail
      go_ret
      exact hE _

end Go.Proofs.Ytnhihajhhlilfaa
