/- The document's one: Fn, Rec. The document's one: Cast. -/
import Derived.Test.YtnhihajhhlilfaaMgbi
import Derived.Test.YtnhihajhhlilfaaMgbk
namespace Go.Proofs.Ytnhihajhhlilfaa
open Go.RowKit Co
open T3.Tp (Ty enc cns)
open Tr (T flat flats)
set_option maxRecDepth 100000
set_option linter.unusedSimpArgs false
set_option linter.unusedVariables false

set_option maxHeartbeats 8000000 in
theorem done_5 {wb ab : Nat} {tv : Value} {l : List Tr.Nd} {N : Nat} (hT : TypC wb ab tv l N) (x : Tr.Nd) (ks : List T) (i : Nat) (rest : List Tr.Nd) (env : List Ty) (ev : Value) (w : World) (hx : l[i]? = some x) (htk : takes x = true) (hkk : x.kids = (ks.length : Int)) (hwk : wfsC ks) (hN : (flats ks).length ≤ N) (hd : l.drop (i + 1) = flats ks ++ rest) (hE : EnvOk env) (hen : env.length ≤ 2 * i) (hl : l.length ≤ 100000) (hS : Ws w wb ab tv l) (hk : IsWk w wb tv (avA ab l) (i : Int) 0 0) (hev : Eo w wb ab ev env) (hκ : x.kind = 5) (hah : ahdD env.length x i = none) :
    Calls Try.prog 69 #[.pointer (some ⟨wb, 0, none⟩), ev] w (DtEnd w wb ab tv l (i + 1 + (flats ks).length) (tyT env (.nd x ks) i)) := by
  obtain ⟨va, vc, rfl⟩ := hS.no.form
  have hil : i < l.length := (List.getElem?_eq_some_iff.1 hx).1
  have hi0 : (0 : Int) ≤ (i : Int) := by omega
  have hil' : (i : Int) < (l.length : Int) := by omega
  obtain ⟨b1, o1, rfl, hlc, hb1, hcx⟩ := hS.no.at hx
  obtain ⟨p0, p1, p2, p3, p4, p5, p6, p7⟩ := agg_cells (o := o1 + i * 8) hcx
  obtain ⟨ea, ec, rfl⟩ := env_form hev.e
  have c0 := (block_cells hk).1 0
  have c1 := (block_cells hk).1 1
  obtain ⟨W1, hW1⟩ : ∃ W1, W1 = w.alloc (.cells (ndA x) 44) := ⟨_, rfl⟩
  obtain ⟨W2, hW2⟩ : ∃ W2, W2 = W1.setCell ⟨wb, 1, none⟩ (.int .i64 ((i : Int) + 1)) := ⟨_, rfl⟩
  obtain ⟨hO, hk1, hk2⟩ := On.mk' (env := env) hW1 hW2 hS hk hev
  have e1 := (block_cells hk1).1 1
  have g1 := (block_cells hk1).2 1
  have q0 : W2.cell? ⟨w.heap.size, 0, none⟩ = some (.int .i8 x.kind) := (block_cells hO.n).1 0
  have q1 : W2.cell? ⟨w.heap.size, 1, none⟩ = some (.int .i64 x.kids) := (block_cells hO.n).1 1
  have q2 : W2.cell? ⟨w.heap.size, 2, none⟩ = some (.int .i64 x.n) := (block_cells hO.n).1 2
  have q3 : W2.cell? ⟨w.heap.size, 3, none⟩ = some (.string x.s) := (block_cells hO.n).1 3
  have q4 : W2.cell? ⟨w.heap.size, 4, none⟩ = some (.string x.t) := (block_cells hO.n).1 4
  have q5 : W2.cell? ⟨w.heap.size, 5, none⟩ = some (.string x.u) := (block_cells hO.n).1 5
  have q6 : W2.cell? ⟨w.heap.size, 6, none⟩ = some (.int .i64 x.ln) := (block_cells hO.n).1 6
  have q7 : W2.cell? ⟨w.heap.size, 7, none⟩ = some (.int .i64 x.co) := (block_cells hO.n).1 7
  have hA := dahead_any x i env.length hk2
  have hlen : env.length ≤ 200000 := by omega
  rw [hah] at hA
  obtain ⟨k, rfl⟩ := kid_one htk hkk hκ (by decide)
  have hfl : flats [k] = flat k := by simp [flats]
  have hgg : goodB x.t = true ∧ goodB x.u = true := by
    have h := hah
    unfold ahdD at h
    rw [if_pos (by omega)] at h
    split at h
    · rename_i hg; simpa using hg
    · cases h
  have hr : tyT env (.nd x [k]) i = funR env x i k := by
    rw [tyT]
    unfold ahd funR
    rw [if_neg (by omega), if_neg (by omega), if_neg (by omega), if_pos (by omega), hgg.1, hgg.2]
    simp only [Bool.and_self, if_true]
    by_cases hz : sz (.tf (tyS x.t) (tyS x.u)) ≤ 64
    · simp only [hz, if_true]
      rw [if_neg (by omega), tyL]
      cases tyT (inn x env) k (i + 1) with
      | error e => rfl
      | ok a => rfl
    · simp only [hz, if_false]
  rw [hr, hfl]
  rw [hfl] at hN hd
  have HF : Aside (∀ w3, On w w3 wb ab (.slice (some ⟨b1, o1, none⟩) l.length vc) l i x (.slice ea env.length ec) env → IsWk w3 wb (.slice (some ⟨b1, o1, none⟩) l.length vc) (avA ab l) ((i + 1 : Nat) : Int) 0 0 → Calls Try.prog 78 #[.pointer (some ⟨wb, 0, none⟩), .agg (ndA x), .int .i64 (i : Int), .slice ea env.length ec] w3 (DtEnd w wb ab (.slice (some ⟨b1, o1, none⟩) l.length vc) l (i + 1 + (flat k).length) (funR env x i k))) := fun w3 hO hk3 =>
    (dfun5 hT x k i rest env (.slice ea env.length ec) w3 hκ hgg.1 hgg.2 hN hwk.1 hd hE hen hil hl hO.s hk3 hO.e).mono fun e w' h => h.trans hO.tw
  have HKI : Aside (x.kind = 5) := hκ
  clear hah hT hwk hd hE htk hkk hN hr hgg hκ
  generalize funR env x i k = R at *
  clear hcx hk1 hk2 hS hk hev hx
  go_enter Try.func69, Try.ntmps69
  go_upto_region 3 with fail
  rw [← hW1]
  clear hW1 p0 p1 p2 p3 p4 p5 p6 p7 c0 c1
  go_upto_region 4 with fail
  rw [← hW2]
  clear hW2 e1 g1
  go_wp2_with fail
  refine hA.mono ?_
  clear hA q0 q1 q2 q3 q4 q5 q6 q7
  rintro e w3 ⟨rfl, hg3, hk3⟩
  replace hO := hO.grown hg3
  clear hg3
  have m2 := (block_cells hk3).1 2
  have hκ := HKI.out
  have q0 : w3.cell? ⟨w.heap.size, 0, none⟩ = some (.int .i8 x.kind) := (block_cells hO.n).1 0
  have q1 : w3.cell? ⟨w.heap.size, 1, none⟩ = some (.int .i64 x.kids) := (block_cells hO.n).1 1
  have q2 : w3.cell? ⟨w.heap.size, 2, none⟩ = some (.int .i64 x.n) := (block_cells hO.n).1 2
  have q3 : w3.cell? ⟨w.heap.size, 3, none⟩ = some (.string x.s) := (block_cells hO.n).1 3
  have q4 : w3.cell? ⟨w.heap.size, 4, none⟩ = some (.string x.t) := (block_cells hO.n).1 4
  have q5 : w3.cell? ⟨w.heap.size, 5, none⟩ = some (.string x.u) := (block_cells hO.n).1 5
  have q6 : w3.cell? ⟨w.heap.size, 6, none⟩ = some (.int .i64 x.ln) := (block_cells hO.n).1 6
  have q7 : w3.cell? ⟨w.heap.size, 7, none⟩ = some (.int .i64 x.co) := (block_cells hO.n).1 7
  have hC := HF.out w3 hO hk3
  change w3.cell? ⟨wb, 2, none⟩ = some (.int .i64 0) at m2
  rw [hκ] at q0
  unfold ndA at hC
  rw [hκ] at hC
  clear hO hk3 hκ HF
  go_wp2_with fail
  refine hC.mono ?_
  clear hC
  intro e w4 h4
  obtain ⟨s, rfl⟩ := h4.ret
  go_wp2_with fail
  go_ret
  exact h4
set_option maxHeartbeats 8000000 in
theorem done_6 {wb ab : Nat} {tv : Value} {l : List Tr.Nd} {N : Nat} (hT : TypC wb ab tv l N) (x : Tr.Nd) (ks : List T) (i : Nat) (rest : List Tr.Nd) (env : List Ty) (ev : Value) (w : World) (hx : l[i]? = some x) (htk : takes x = true) (hkk : x.kids = (ks.length : Int)) (hwk : wfsC ks) (hN : (flats ks).length ≤ N) (hd : l.drop (i + 1) = flats ks ++ rest) (hE : EnvOk env) (hen : env.length ≤ 2 * i) (hl : l.length ≤ 100000) (hS : Ws w wb ab tv l) (hk : IsWk w wb tv (avA ab l) (i : Int) 0 0) (hev : Eo w wb ab ev env) (hκ : x.kind = 6) (hah : ahdD env.length x i = none) :
    Calls Try.prog 69 #[.pointer (some ⟨wb, 0, none⟩), ev] w (DtEnd w wb ab tv l (i + 1 + (flats ks).length) (tyT env (.nd x ks) i)) := by
  obtain ⟨va, vc, rfl⟩ := hS.no.form
  have hil : i < l.length := (List.getElem?_eq_some_iff.1 hx).1
  have hi0 : (0 : Int) ≤ (i : Int) := by omega
  have hil' : (i : Int) < (l.length : Int) := by omega
  obtain ⟨b1, o1, rfl, hlc, hb1, hcx⟩ := hS.no.at hx
  obtain ⟨p0, p1, p2, p3, p4, p5, p6, p7⟩ := agg_cells (o := o1 + i * 8) hcx
  obtain ⟨ea, ec, rfl⟩ := env_form hev.e
  have c0 := (block_cells hk).1 0
  have c1 := (block_cells hk).1 1
  obtain ⟨W1, hW1⟩ : ∃ W1, W1 = w.alloc (.cells (ndA x) 44) := ⟨_, rfl⟩
  obtain ⟨W2, hW2⟩ : ∃ W2, W2 = W1.setCell ⟨wb, 1, none⟩ (.int .i64 ((i : Int) + 1)) := ⟨_, rfl⟩
  obtain ⟨hO, hk1, hk2⟩ := On.mk' (env := env) hW1 hW2 hS hk hev
  have e1 := (block_cells hk1).1 1
  have g1 := (block_cells hk1).2 1
  have q0 : W2.cell? ⟨w.heap.size, 0, none⟩ = some (.int .i8 x.kind) := (block_cells hO.n).1 0
  have q1 : W2.cell? ⟨w.heap.size, 1, none⟩ = some (.int .i64 x.kids) := (block_cells hO.n).1 1
  have q2 : W2.cell? ⟨w.heap.size, 2, none⟩ = some (.int .i64 x.n) := (block_cells hO.n).1 2
  have q3 : W2.cell? ⟨w.heap.size, 3, none⟩ = some (.string x.s) := (block_cells hO.n).1 3
  have q4 : W2.cell? ⟨w.heap.size, 4, none⟩ = some (.string x.t) := (block_cells hO.n).1 4
  have q5 : W2.cell? ⟨w.heap.size, 5, none⟩ = some (.string x.u) := (block_cells hO.n).1 5
  have q6 : W2.cell? ⟨w.heap.size, 6, none⟩ = some (.int .i64 x.ln) := (block_cells hO.n).1 6
  have q7 : W2.cell? ⟨w.heap.size, 7, none⟩ = some (.int .i64 x.co) := (block_cells hO.n).1 7
  have hA := dahead_any x i env.length hk2
  have hlen : env.length ≤ 200000 := by omega
  rw [hah] at hA
  obtain ⟨k, rfl⟩ := kid_one htk hkk hκ (by decide)
  have hfl : flats [k] = flat k := by simp [flats]
  have hgg : goodB x.t = true ∧ goodB x.u = true := by
    have h := hah
    unfold ahdD at h
    rw [if_pos (by omega)] at h
    split at h
    · rename_i hg; simpa using hg
    · cases h
  have hr : tyT env (.nd x [k]) i = funR env x i k := by
    rw [tyT]
    unfold ahd funR
    rw [if_neg (by omega), if_neg (by omega), if_neg (by omega), if_pos (by omega), hgg.1, hgg.2]
    simp only [Bool.and_self, if_true]
    by_cases hz : sz (.tf (tyS x.t) (tyS x.u)) ≤ 64
    · simp only [hz, if_true]
      rw [if_neg (by omega), tyL]
      cases tyT (inn x env) k (i + 1) with
      | error e => rfl
      | ok a => rfl
    · simp only [hz, if_false]
  rw [hr, hfl]
  rw [hfl] at hN hd
  have HF : Aside (∀ w3, On w w3 wb ab (.slice (some ⟨b1, o1, none⟩) l.length vc) l i x (.slice ea env.length ec) env → IsWk w3 wb (.slice (some ⟨b1, o1, none⟩) l.length vc) (avA ab l) ((i + 1 : Nat) : Int) 0 0 → Calls Try.prog 78 #[.pointer (some ⟨wb, 0, none⟩), .agg (ndA x), .int .i64 (i : Int), .slice ea env.length ec] w3 (DtEnd w wb ab (.slice (some ⟨b1, o1, none⟩) l.length vc) l (i + 1 + (flat k).length) (funR env x i k))) := fun w3 hO hk3 =>
    (dfun6 hT x k i rest env (.slice ea env.length ec) w3 hκ hgg.1 hgg.2 hN hwk.1 hd hE hen hil hl hO.s hk3 hO.e).mono fun e w' h => h.trans hO.tw
  have HKI : Aside (x.kind = 6) := hκ
  clear hah hT hwk hd hE htk hkk hN hr hgg hκ
  generalize funR env x i k = R at *
  clear hcx hk1 hk2 hS hk hev hx
  go_enter Try.func69, Try.ntmps69
  go_upto_region 3 with fail
  rw [← hW1]
  clear hW1 p0 p1 p2 p3 p4 p5 p6 p7 c0 c1
  go_upto_region 4 with fail
  rw [← hW2]
  clear hW2 e1 g1
  go_wp2_with fail
  refine hA.mono ?_
  clear hA q0 q1 q2 q3 q4 q5 q6 q7
  rintro e w3 ⟨rfl, hg3, hk3⟩
  replace hO := hO.grown hg3
  clear hg3
  have m2 := (block_cells hk3).1 2
  have hκ := HKI.out
  have q0 : w3.cell? ⟨w.heap.size, 0, none⟩ = some (.int .i8 x.kind) := (block_cells hO.n).1 0
  have q1 : w3.cell? ⟨w.heap.size, 1, none⟩ = some (.int .i64 x.kids) := (block_cells hO.n).1 1
  have q2 : w3.cell? ⟨w.heap.size, 2, none⟩ = some (.int .i64 x.n) := (block_cells hO.n).1 2
  have q3 : w3.cell? ⟨w.heap.size, 3, none⟩ = some (.string x.s) := (block_cells hO.n).1 3
  have q4 : w3.cell? ⟨w.heap.size, 4, none⟩ = some (.string x.t) := (block_cells hO.n).1 4
  have q5 : w3.cell? ⟨w.heap.size, 5, none⟩ = some (.string x.u) := (block_cells hO.n).1 5
  have q6 : w3.cell? ⟨w.heap.size, 6, none⟩ = some (.int .i64 x.ln) := (block_cells hO.n).1 6
  have q7 : w3.cell? ⟨w.heap.size, 7, none⟩ = some (.int .i64 x.co) := (block_cells hO.n).1 7
  have hC := HF.out w3 hO hk3
  change w3.cell? ⟨wb, 2, none⟩ = some (.int .i64 0) at m2
  rw [hκ] at q0
  unfold ndA at hC
  rw [hκ] at hC
  clear hO hk3 hκ HF
  go_wp2_with fail
  refine hC.mono ?_
  clear hC
  intro e w4 h4
  obtain ⟨s, rfl⟩ := h4.ret
  go_wp2_with fail
  go_ret
  exact h4
end Go.Proofs.Ytnhihajhhlilfaa
namespace Go.Proofs.Ytnhihajhhlilfaa
open Go.RowKit Co
open T3.Tp (Ty enc cns)
open Tr (T flat flats)
set_option maxRecDepth 100000
set_option linter.unusedSimpArgs false
set_option linter.unusedVariables false

set_option maxHeartbeats 8000000 in
theorem done_30 {wb ab : Nat} {tv : Value} {l : List Tr.Nd} {N : Nat} (hT : TypC wb ab tv l N) (x : Tr.Nd) (ks : List T) (i : Nat) (rest : List Tr.Nd) (env : List Ty) (ev : Value) (w : World) (hx : l[i]? = some x) (htk : takes x = true) (hkk : x.kids = (ks.length : Int)) (hwk : wfsC ks) (hN : (flats ks).length ≤ N) (hd : l.drop (i + 1) = flats ks ++ rest) (hE : EnvOk env) (hen : env.length ≤ 2 * i) (hl : l.length ≤ 100000) (hS : Ws w wb ab tv l) (hk : IsWk w wb tv (avA ab l) (i : Int) 0 0) (hev : Eo w wb ab ev env) (hκ : x.kind = 30) (hah : ahdD env.length x i = none) :
    Calls Try.prog 69 #[.pointer (some ⟨wb, 0, none⟩), ev] w (DtEnd w wb ab tv l (i + 1 + (flats ks).length) (tyT env (.nd x ks) i)) := by
  obtain ⟨va, vc, rfl⟩ := hS.no.form
  have hil : i < l.length := (List.getElem?_eq_some_iff.1 hx).1
  have hi0 : (0 : Int) ≤ (i : Int) := by omega
  have hil' : (i : Int) < (l.length : Int) := by omega
  obtain ⟨b1, o1, rfl, hlc, hb1, hcx⟩ := hS.no.at hx
  obtain ⟨p0, p1, p2, p3, p4, p5, p6, p7⟩ := agg_cells (o := o1 + i * 8) hcx
  obtain ⟨ea, ec, rfl⟩ := env_form hev.e
  have c0 := (block_cells hk).1 0
  have c1 := (block_cells hk).1 1
  obtain ⟨W1, hW1⟩ : ∃ W1, W1 = w.alloc (.cells (ndA x) 44) := ⟨_, rfl⟩
  obtain ⟨W2, hW2⟩ : ∃ W2, W2 = W1.setCell ⟨wb, 1, none⟩ (.int .i64 ((i : Int) + 1)) := ⟨_, rfl⟩
  obtain ⟨hO, hk1, hk2⟩ := On.mk' (env := env) hW1 hW2 hS hk hev
  have e1 := (block_cells hk1).1 1
  have g1 := (block_cells hk1).2 1
  have q0 : W2.cell? ⟨w.heap.size, 0, none⟩ = some (.int .i8 x.kind) := (block_cells hO.n).1 0
  have q1 : W2.cell? ⟨w.heap.size, 1, none⟩ = some (.int .i64 x.kids) := (block_cells hO.n).1 1
  have q2 : W2.cell? ⟨w.heap.size, 2, none⟩ = some (.int .i64 x.n) := (block_cells hO.n).1 2
  have q3 : W2.cell? ⟨w.heap.size, 3, none⟩ = some (.string x.s) := (block_cells hO.n).1 3
  have q4 : W2.cell? ⟨w.heap.size, 4, none⟩ = some (.string x.t) := (block_cells hO.n).1 4
  have q5 : W2.cell? ⟨w.heap.size, 5, none⟩ = some (.string x.u) := (block_cells hO.n).1 5
  have q6 : W2.cell? ⟨w.heap.size, 6, none⟩ = some (.int .i64 x.ln) := (block_cells hO.n).1 6
  have q7 : W2.cell? ⟨w.heap.size, 7, none⟩ = some (.int .i64 x.co) := (block_cells hO.n).1 7
  have hA := dahead_any x i env.length hk2
  have hlen : env.length ≤ 200000 := by omega
  rw [hah] at hA
  obtain ⟨k, rfl⟩ := kid_one htk hkk hκ (by decide)
  have hfl : flats [k] = flat k := by simp [flats]
  have hah2 := ahdD_none hah (by omega)
  have hgg : goodB x.t = true ∧ goodB x.u = true := by
    have h := hah2
    unfold ahd at h
    rw [if_neg (by omega), if_neg (by omega), if_neg (by omega), if_neg (by omega), if_neg (by omega), if_pos hκ] at h
    split at h
    · rename_i hg; simpa using hg
    · cases h
  obtain ⟨et, zt⟩ := good_text hgg.1
  obtain ⟨eu, zu⟩ := good_text hgg.2
  have HR : Aside (tyT env (.nd x [k]) i = match tyT env k (i + 1) with | .error e => .error e | .ok a => if a = tyS x.t then .ok (tyS x.u) else .error (23, i)) := by
    show _ = _
    rw [tyT_plain10 hah2 (by omega), tyL, show inn x env = env by unfold inn; rw [if_neg (by omega), if_neg (by omega)]]
    cases tyT env k (i + 1) with
    | error e => rfl
    | ok a => show rul env x i [a] = _; unfold rul; simp [hκ]
  rw [hfl] at hN hd ⊢
  have HK : Aside (∀ w3, On w w3 wb ab (.slice (some ⟨b1, o1, none⟩) l.length vc) l i x (.slice ea env.length ec) env → IsWk w3 wb (.slice (some ⟨b1, o1, none⟩) l.length vc) (avA ab l) ((i + 1 : Nat) : Int) 0 0 → Calls Try.prog 79 #[.pointer (some ⟨wb, 0, none⟩), .slice ea env.length ec] w3 (DtEnd w3 wb ab (.slice (some ⟨b1, o1, none⟩) l.length vc) l (i + 1 + (flat k).length) (tyT env k (i + 1)))) := fun w3 hO hk3 => dkid_any hT k (i + 1) rest env (.slice ea env.length ec) w3 hN hwk.1 hd hE (by omega) hO.s hk3 hO.e
  have HP : Aside (∀ q, tyT env k (i + 1) = .error q → q.1 ≠ 0) := fun q h => tyT_pos k _ _ q hwk.1 h
  have HX : Aside (∀ a, ((S (enc a)).toList == x.t.toList) = decide (a = tyS x.t)) := fun a => by rw [et, show tyS (S (enc (tyS x.t))) = tyS x.t by rw [← et]]; exact Sx_eq a _
  have HU : Aside (x.u = S (enc (tyS x.u))) := eu
  clear hah hah2 hT hwk hd hE htk hkk hN hgg et eu zt zu
  obtain ⟨R, hR⟩ : ∃ R, R = tyT env (.nd x [k]) i := ⟨_, rfl⟩
  rw [← hR] at HR ⊢
  clear hR
  obtain ⟨J, hJ⟩ : ∃ J, J = i + 1 + (flat k).length := ⟨_, rfl⟩
  rw [← hJ] at HK ⊢
  clear hJ
  generalize tyT env k (i + 1) = r at *
  generalize tyS x.t = τ at *
  generalize tyS x.u = υ at *
  have HKI : Aside (x.kind = 30) := hκ
  clear hκ
  clear hcx hk1 hk2 hS hk hev hx
  go_enter Try.func69, Try.ntmps69
  go_upto_region 3 with fail
  rw [← hW1]
  clear hW1 p0 p1 p2 p3 p4 p5 p6 p7 c0 c1
  go_upto_region 4 with fail
  rw [← hW2]
  clear hW2 e1 g1
  go_wp2_with fail
  refine hA.mono ?_
  clear hA q0 q1 q2 q3 q4 q5 q6 q7
  rintro e w3 ⟨rfl, hg3, hk3⟩
  replace hO := hO.grown hg3
  clear hg3
  have m2 := (block_cells hk3).1 2
  have hκ := HKI.out
  have q0 : w3.cell? ⟨w.heap.size, 0, none⟩ = some (.int .i8 x.kind) := (block_cells hO.n).1 0
  rw [hκ] at q0
  have hC := HK.out w3 hO hk3
  change w3.cell? ⟨wb, 2, none⟩ = some (.int .i64 0) at m2
  clear hk3 hκ HK
  go_wp2_with fail
  refine hC.mono ?_
  clear hC q0 m2
  cases r with
  | error q =>
    have h0 := HP.out q rfl
    rintro e w4 ⟨ht, hs, ⟨s, rfl⟩, a, hk⟩
    have hw := want_err hk h0
    replace hO := hO.next ht hs
    have q4 : w4.cell? ⟨w.heap.size, 4, none⟩ = some (.string x.t) := (block_cells hO.n).1 4
    have q5 : w4.cell? ⟨w.heap.size, 5, none⟩ = some (.string x.u) := (block_cells hO.n).1 5
    have HE : Aside (∀ s, DtEnd w wb ab (.slice (some ⟨b1, o1, none⟩) l.length vc) l J R (.returned (.string s)) w4) := fun s => by rw [HR.out]; exact ⟨hO.tw, hs, ⟨s, rfl⟩, a, hk⟩
    clear ht hs hk HR HX HP HU hO
    go_wp2_with fail
    refine (hw _ _).mono ?_
    rintro e w5 ⟨rfl, hw5⟩
    replace hw5 := hw5.symm
    subst hw5
    clear hw
    go_wp2_with fail
    go_ret
    exact HE.out _
  | ok a =>
    rintro e w4 ⟨ht, hs, rfl, hk⟩
    replace hO := hO.next ht hs
    have q4 : w4.cell? ⟨w.heap.size, 4, none⟩ = some (.string x.t) := (block_cells hO.n).1 4
    have q5 : w4.cell? ⟨w.heap.size, 5, none⟩ = some (.string x.u) := (block_cells hO.n).1 5
    have hq := HX.out a
    by_cases ha : a = τ
    · rw [show decide (a = τ) = true by simpa using ha] at hq
      have HE : Aside (DtEnd w wb ab (.slice (some ⟨b1, o1, none⟩) l.length vc) l J R (.returned (.string x.u)) w4) := by
        show DtEnd _ _ _ _ _ _ _ _ _
        rw [HR.out]
        simp only [ha, if_true]
        rw [HU.out]
        exact ⟨hO.tw, hs, rfl, hk⟩
      have hw := want0_any (w := w4) wb (i : Int)
      clear ht hs hk HR HX HP ha HU hO
      generalize S (enc a) = sa at *
      go_wp2_with fail
      refine hw.mono ?_
      rintro e w5 ⟨rfl, hw5⟩
      replace hw5 := hw5.symm
      subst hw5
      go_wp2_with fail
      go_ret
      exact HE.out
    · rw [show decide (a = τ) = false by simpa using ha] at hq
      have hw := want1_any hk (i : Int)
      have HE : Aside (∀ w5, Fld w4 wb (.slice (some ⟨b1, o1, none⟩) l.length vc) (avA ab l) (J : Int) 23 (i : Int) w5 → (∀ s, DtEnd w wb ab (.slice (some ⟨b1, o1, none⟩) l.length vc) l J R (.returned (.string s)) w5) ∧ w5.cell? ⟨w.heap.size, 5, none⟩ = some (.string x.u)) := fun w5 hF => by
        refine ⟨fun s => ?_, (block_cells (hO.grown hF.1).n).1 5⟩
        rw [HR.out]
        simp only [ha, if_false]
        exact ⟨hO.tw.trans (Tw.grown hF.1 ab), hs.grown hF.1, ⟨s, rfl⟩, _, hF.2⟩
      clear ht hs hk HR HX HP ha HU hO
      generalize S (enc a) = sa at *
      go_wp2_with fail
      refine hw.mono ?_
      rintro e w5 ⟨rfl, hF⟩
      obtain ⟨hE, q5'⟩ := HE.out w5 hF
      clear hF HE hw
      go_wp2_with fail
      go_ret
      exact hE _
end Go.Proofs.Ytnhihajhhlilfaa
