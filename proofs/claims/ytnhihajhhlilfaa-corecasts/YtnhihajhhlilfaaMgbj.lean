/- The document's one: leaves. -/
import Derived.Test.YtnhihajhhlilfaaMgbi
namespace Go.Proofs.Ytnhihajhhlilfaa
open Go.RowKit Co
open T3.Tp (Ty enc cns)
open Tr (T flat flats)
set_option maxRecDepth 100000
set_option linter.unusedSimpArgs false
set_option linter.unusedVariables false

set_option maxHeartbeats 8000000 in
theorem done_1 {wb ab : Nat} {tv : Value} {l : List Tr.Nd} {N : Nat} (hT : TypC wb ab tv l N) (x : Tr.Nd) (ks : List T) (i : Nat) (rest : List Tr.Nd) (env : List Ty) (ev : Value) (w : World) (hx : l[i]? = some x) (htk : takes x = true) (hkk : x.kids = (ks.length : Int)) (hwk : wfsC ks) (hN : (flats ks).length ≤ N) (hd : l.drop (i + 1) = flats ks ++ rest) (hE : EnvOk env) (hen : env.length ≤ 2 * i) (hl : l.length ≤ 100000) (hS : Ws w wb ab tv l) (hk : IsWk w wb tv (avA ab l) (i : Int) 0 0) (hev : Eo w wb ab ev env) (hκ : x.kind = 1) (hah : ahdD env.length x i = none) :
    Calls Try.prog 69 #[.pointer (some ⟨wb, 0, none⟩), ev] w (DtEnd w wb ab tv l (i + 1 + (flats ks).length) (tyT env (.nd x ks) i)) := by
  obtain ⟨va, vc, rfl⟩ := hS.no.form
  have hil : i < l.length := (List.getElem?_eq_some_iff.1 hx).1
  have hi0 : (0 : Int) ≤ (i : Int) := by omega
  have hil' : (i : Int) < (l.length : Int) := by omega
  obtain ⟨b1, o1, rfl, hlc, hb1, hcx⟩ := hS.no.at hx
  obtain ⟨p0, p1, p2, p3, p4, p5, p6, p7⟩ := agg_cells (o := o1 + i * 8) hcx
  obtain ⟨ea, ec, rfl⟩ := env_form hev.e
  have c0 := (block_cells hk).1 0
  have c1 := (block_cells hk).1 1
  obtain ⟨W1, hW1⟩ : ∃ W1, W1 = w.alloc (.cells (ndA x) 44) := ⟨_, rfl⟩
  obtain ⟨W2, hW2⟩ : ∃ W2, W2 = W1.setCell ⟨wb, 1, none⟩ (.int .i64 ((i : Int) + 1)) := ⟨_, rfl⟩
  obtain ⟨hO, hk1, hk2⟩ := On.mk' (env := env) hW1 hW2 hS hk hev
  have e1 := (block_cells hk1).1 1
  have g1 := (block_cells hk1).2 1
  have q0 : W2.cell? ⟨w.heap.size, 0, none⟩ = some (.int .i8 x.kind) := (block_cells hO.n).1 0
  have q1 : W2.cell? ⟨w.heap.size, 1, none⟩ = some (.int .i64 x.kids) := (block_cells hO.n).1 1
  have q2 : W2.cell? ⟨w.heap.size, 2, none⟩ = some (.int .i64 x.n) := (block_cells hO.n).1 2
  have q3 : W2.cell? ⟨w.heap.size, 3, none⟩ = some (.string x.s) := (block_cells hO.n).1 3
  have q4 : W2.cell? ⟨w.heap.size, 4, none⟩ = some (.string x.t) := (block_cells hO.n).1 4
  have q5 : W2.cell? ⟨w.heap.size, 5, none⟩ = some (.string x.u) := (block_cells hO.n).1 5
  have q6 : W2.cell? ⟨w.heap.size, 6, none⟩ = some (.int .i64 x.ln) := (block_cells hO.n).1 6
  have q7 : W2.cell? ⟨w.heap.size, 7, none⟩ = some (.int .i64 x.co) := (block_cells hO.n).1 7
  have hA := dahead_any x i env.length hk2
  have hlen : env.length ≤ 200000 := by omega
  rw [hah] at hA
  have hk0 := kids_of10 htk hκ (n := 0) (by decide) (by decide)
  obtain rfl : ks = [] := List.length_eq_zero_iff.1 (by omega)
  have hr : tyT env (.nd x []) i = .ok .ti := by
    rw [tyT_plain10 (ahdD_none hah (by omega)) (by omega)]
    show rul env x i [] = _
    unfold rul
    simp [hκ]
  rw [hr]
  have HKI : Aside (x.kind = 1) := hκ
  clear hah hT hwk hd hE htk hkk hN hr hk0 hκ
  clear hcx hk1 hk2 hS hk hev hx
  go_enter Try.func69, Try.ntmps69
  go_upto_region 3 with fail
  rw [← hW1]
  clear hW1 p0 p1 p2 p3 p4 p5 p6 p7 c0 c1
  go_upto_region 4 with fail
  rw [← hW2]
  clear hW2 e1 g1
  go_wp2_with fail
  refine hA.mono ?_
  clear hA q0 q1 q2 q3 q4 q5 q6 q7
  rintro e w3 ⟨rfl, hg3, hk3⟩
  replace hO := hO.grown hg3
  clear hg3
  have m2 := (block_cells hk3).1 2
  have hκ := HKI.out
  have n0 : w3.cell? ⟨w.heap.size, 0, none⟩ = some (.int .i8 x.kind) := (block_cells hO.n).1 0
  rw [hκ] at n0
  have hE : DtEnd w wb ab (.slice (some ⟨b1, o1, none⟩) l.length vc) l (i + 1 + (flats []).length) (.ok .ti) (.returned (.string ⟨#[105]⟩)) w3 := ⟨hO.tw, hO.s, rfl, hk3⟩
  change w3.cell? ⟨wb, 2, none⟩ = some (.int .i64 0) at m2
  clear hO hk3 hκ
  go_wp2_with fail
  go_ret
  exact hE
set_option maxHeartbeats 8000000 in
theorem done_2 {wb ab : Nat} {tv : Value} {l : List Tr.Nd} {N : Nat} (hT : TypC wb ab tv l N) (x : Tr.Nd) (ks : List T) (i : Nat) (rest : List Tr.Nd) (env : List Ty) (ev : Value) (w : World) (hx : l[i]? = some x) (htk : takes x = true) (hkk : x.kids = (ks.length : Int)) (hwk : wfsC ks) (hN : (flats ks).length ≤ N) (hd : l.drop (i + 1) = flats ks ++ rest) (hE : EnvOk env) (hen : env.length ≤ 2 * i) (hl : l.length ≤ 100000) (hS : Ws w wb ab tv l) (hk : IsWk w wb tv (avA ab l) (i : Int) 0 0) (hev : Eo w wb ab ev env) (hκ : x.kind = 2) (hah : ahdD env.length x i = none) :
    Calls Try.prog 69 #[.pointer (some ⟨wb, 0, none⟩), ev] w (DtEnd w wb ab tv l (i + 1 + (flats ks).length) (tyT env (.nd x ks) i)) := by
  obtain ⟨va, vc, rfl⟩ := hS.no.form
  have hil : i < l.length := (List.getElem?_eq_some_iff.1 hx).1
  have hi0 : (0 : Int) ≤ (i : Int) := by omega
  have hil' : (i : Int) < (l.length : Int) := by omega
  obtain ⟨b1, o1, rfl, hlc, hb1, hcx⟩ := hS.no.at hx
  obtain ⟨p0, p1, p2, p3, p4, p5, p6, p7⟩ := agg_cells (o := o1 + i * 8) hcx
  obtain ⟨ea, ec, rfl⟩ := env_form hev.e
  have c0 := (block_cells hk).1 0
  have c1 := (block_cells hk).1 1
  obtain ⟨W1, hW1⟩ : ∃ W1, W1 = w.alloc (.cells (ndA x) 44) := ⟨_, rfl⟩
  obtain ⟨W2, hW2⟩ : ∃ W2, W2 = W1.setCell ⟨wb, 1, none⟩ (.int .i64 ((i : Int) + 1)) := ⟨_, rfl⟩
  obtain ⟨hO, hk1, hk2⟩ := On.mk' (env := env) hW1 hW2 hS hk hev
  have e1 := (block_cells hk1).1 1
  have g1 := (block_cells hk1).2 1
  have q0 : W2.cell? ⟨w.heap.size, 0, none⟩ = some (.int .i8 x.kind) := (block_cells hO.n).1 0
  have q1 : W2.cell? ⟨w.heap.size, 1, none⟩ = some (.int .i64 x.kids) := (block_cells hO.n).1 1
  have q2 : W2.cell? ⟨w.heap.size, 2, none⟩ = some (.int .i64 x.n) := (block_cells hO.n).1 2
  have q3 : W2.cell? ⟨w.heap.size, 3, none⟩ = some (.string x.s) := (block_cells hO.n).1 3
  have q4 : W2.cell? ⟨w.heap.size, 4, none⟩ = some (.string x.t) := (block_cells hO.n).1 4
  have q5 : W2.cell? ⟨w.heap.size, 5, none⟩ = some (.string x.u) := (block_cells hO.n).1 5
  have q6 : W2.cell? ⟨w.heap.size, 6, none⟩ = some (.int .i64 x.ln) := (block_cells hO.n).1 6
  have q7 : W2.cell? ⟨w.heap.size, 7, none⟩ = some (.int .i64 x.co) := (block_cells hO.n).1 7
  have hA := dahead_any x i env.length hk2
  have hlen : env.length ≤ 200000 := by omega
  rw [hah] at hA
  have hk0 := kids_of10 htk hκ (n := 0) (by decide) (by decide)
  obtain rfl : ks = [] := List.length_eq_zero_iff.1 (by omega)
  have hr : tyT env (.nd x []) i = .ok .tt := by
    rw [tyT_plain10 (ahdD_none hah (by omega)) (by omega)]
    show rul env x i [] = _
    unfold rul
    simp [hκ]
  rw [hr]
  have HKI : Aside (x.kind = 2) := hκ
  clear hah hT hwk hd hE htk hkk hN hr hk0 hκ
  clear hcx hk1 hk2 hS hk hev hx
  go_enter Try.func69, Try.ntmps69
  go_upto_region 3 with fail
  rw [← hW1]
  clear hW1 p0 p1 p2 p3 p4 p5 p6 p7 c0 c1
  go_upto_region 4 with fail
  rw [← hW2]
  clear hW2 e1 g1
  go_wp2_with fail
  refine hA.mono ?_
  clear hA q0 q1 q2 q3 q4 q5 q6 q7
  rintro e w3 ⟨rfl, hg3, hk3⟩
  replace hO := hO.grown hg3
  clear hg3
  have m2 := (block_cells hk3).1 2
  have hκ := HKI.out
  have n0 : w3.cell? ⟨w.heap.size, 0, none⟩ = some (.int .i8 x.kind) := (block_cells hO.n).1 0
  rw [hκ] at n0
  have hE : DtEnd w wb ab (.slice (some ⟨b1, o1, none⟩) l.length vc) l (i + 1 + (flats []).length) (.ok .tt) (.returned (.string ⟨#[116]⟩)) w3 := ⟨hO.tw, hO.s, rfl, hk3⟩
  change w3.cell? ⟨wb, 2, none⟩ = some (.int .i64 0) at m2
  clear hO hk3 hκ
  go_wp2_with fail
  go_ret
  exact hE
set_option maxHeartbeats 8000000 in
theorem done_3 {wb ab : Nat} {tv : Value} {l : List Tr.Nd} {N : Nat} (hT : TypC wb ab tv l N) (x : Tr.Nd) (ks : List T) (i : Nat) (rest : List Tr.Nd) (env : List Ty) (ev : Value) (w : World) (hx : l[i]? = some x) (htk : takes x = true) (hkk : x.kids = (ks.length : Int)) (hwk : wfsC ks) (hN : (flats ks).length ≤ N) (hd : l.drop (i + 1) = flats ks ++ rest) (hE : EnvOk env) (hen : env.length ≤ 2 * i) (hl : l.length ≤ 100000) (hS : Ws w wb ab tv l) (hk : IsWk w wb tv (avA ab l) (i : Int) 0 0) (hev : Eo w wb ab ev env) (hκ : x.kind = 3) (hah : ahdD env.length x i = none) :
    Calls Try.prog 69 #[.pointer (some ⟨wb, 0, none⟩), ev] w (DtEnd w wb ab tv l (i + 1 + (flats ks).length) (tyT env (.nd x ks) i)) := by
  obtain ⟨va, vc, rfl⟩ := hS.no.form
  have hil : i < l.length := (List.getElem?_eq_some_iff.1 hx).1
  have hi0 : (0 : Int) ≤ (i : Int) := by omega
  have hil' : (i : Int) < (l.length : Int) := by omega
  obtain ⟨b1, o1, rfl, hlc, hb1, hcx⟩ := hS.no.at hx
  obtain ⟨p0, p1, p2, p3, p4, p5, p6, p7⟩ := agg_cells (o := o1 + i * 8) hcx
  obtain ⟨ea, ec, rfl⟩ := env_form hev.e
  have c0 := (block_cells hk).1 0
  have c1 := (block_cells hk).1 1
  obtain ⟨W1, hW1⟩ : ∃ W1, W1 = w.alloc (.cells (ndA x) 44) := ⟨_, rfl⟩
  obtain ⟨W2, hW2⟩ : ∃ W2, W2 = W1.setCell ⟨wb, 1, none⟩ (.int .i64 ((i : Int) + 1)) := ⟨_, rfl⟩
  obtain ⟨hO, hk1, hk2⟩ := On.mk' (env := env) hW1 hW2 hS hk hev
  have e1 := (block_cells hk1).1 1
  have g1 := (block_cells hk1).2 1
  have q0 : W2.cell? ⟨w.heap.size, 0, none⟩ = some (.int .i8 x.kind) := (block_cells hO.n).1 0
  have q1 : W2.cell? ⟨w.heap.size, 1, none⟩ = some (.int .i64 x.kids) := (block_cells hO.n).1 1
  have q2 : W2.cell? ⟨w.heap.size, 2, none⟩ = some (.int .i64 x.n) := (block_cells hO.n).1 2
  have q3 : W2.cell? ⟨w.heap.size, 3, none⟩ = some (.string x.s) := (block_cells hO.n).1 3
  have q4 : W2.cell? ⟨w.heap.size, 4, none⟩ = some (.string x.t) := (block_cells hO.n).1 4
  have q5 : W2.cell? ⟨w.heap.size, 5, none⟩ = some (.string x.u) := (block_cells hO.n).1 5
  have q6 : W2.cell? ⟨w.heap.size, 6, none⟩ = some (.int .i64 x.ln) := (block_cells hO.n).1 6
  have q7 : W2.cell? ⟨w.heap.size, 7, none⟩ = some (.int .i64 x.co) := (block_cells hO.n).1 7
  have hA := dahead_any x i env.length hk2
  have hlen : env.length ≤ 200000 := by omega
  rw [hah] at hA
  have hk0 := kids_of10 htk hκ (n := 0) (by decide) (by decide)
  obtain rfl : ks = [] := List.length_eq_zero_iff.1 (by omega)
  have hr : tyT env (.nd x []) i = .ok .tb := by
    rw [tyT_plain10 (ahdD_none hah (by omega)) (by omega)]
    show rul env x i [] = _
    unfold rul
    simp [hκ]
  rw [hr]
  have HKI : Aside (x.kind = 3) := hκ
  clear hah hT hwk hd hE htk hkk hN hr hk0 hκ
  clear hcx hk1 hk2 hS hk hev hx
  go_enter Try.func69, Try.ntmps69
  go_upto_region 3 with fail
  rw [← hW1]
  clear hW1 p0 p1 p2 p3 p4 p5 p6 p7 c0 c1
  go_upto_region 4 with fail
  rw [← hW2]
  clear hW2 e1 g1
  go_wp2_with fail
  refine hA.mono ?_
  clear hA q0 q1 q2 q3 q4 q5 q6 q7
  rintro e w3 ⟨rfl, hg3, hk3⟩
  replace hO := hO.grown hg3
  clear hg3
  have m2 := (block_cells hk3).1 2
  have hκ := HKI.out
  have n0 : w3.cell? ⟨w.heap.size, 0, none⟩ = some (.int .i8 x.kind) := (block_cells hO.n).1 0
  rw [hκ] at n0
  have hE : DtEnd w wb ab (.slice (some ⟨b1, o1, none⟩) l.length vc) l (i + 1 + (flats []).length) (.ok .tb) (.returned (.string ⟨#[98]⟩)) w3 := ⟨hO.tw, hO.s, rfl, hk3⟩
  change w3.cell? ⟨wb, 2, none⟩ = some (.int .i64 0) at m2
  clear hO hk3 hκ
  go_wp2_with fail
  go_ret
  exact hE
set_option maxHeartbeats 8000000 in
theorem done_4 {wb ab : Nat} {tv : Value} {l : List Tr.Nd} {N : Nat} (hT : TypC wb ab tv l N) (x : Tr.Nd) (ks : List T) (i : Nat) (rest : List Tr.Nd) (env : List Ty) (ev : Value) (w : World) (hx : l[i]? = some x) (htk : takes x = true) (hkk : x.kids = (ks.length : Int)) (hwk : wfsC ks) (hN : (flats ks).length ≤ N) (hd : l.drop (i + 1) = flats ks ++ rest) (hE : EnvOk env) (hen : env.length ≤ 2 * i) (hl : l.length ≤ 100000) (hS : Ws w wb ab tv l) (hk : IsWk w wb tv (avA ab l) (i : Int) 0 0) (hev : Eo w wb ab ev env) (hκ : x.kind = 4) (hah : ahdD env.length x i = none) :
    Calls Try.prog 69 #[.pointer (some ⟨wb, 0, none⟩), ev] w (DtEnd w wb ab tv l (i + 1 + (flats ks).length) (tyT env (.nd x ks) i)) := by
  obtain ⟨va, vc, rfl⟩ := hS.no.form
  have hil : i < l.length := (List.getElem?_eq_some_iff.1 hx).1
  have hi0 : (0 : Int) ≤ (i : Int) := by omega
  have hil' : (i : Int) < (l.length : Int) := by omega
  obtain ⟨b1, o1, rfl, hlc, hb1, hcx⟩ := hS.no.at hx
  obtain ⟨p0, p1, p2, p3, p4, p5, p6, p7⟩ := agg_cells (o := o1 + i * 8) hcx
  obtain ⟨ea, ec, rfl⟩ := env_form hev.e
  have c0 := (block_cells hk).1 0
  have c1 := (block_cells hk).1 1
  obtain ⟨W1, hW1⟩ : ∃ W1, W1 = w.alloc (.cells (ndA x) 44) := ⟨_, rfl⟩
  obtain ⟨W2, hW2⟩ : ∃ W2, W2 = W1.setCell ⟨wb, 1, none⟩ (.int .i64 ((i : Int) + 1)) := ⟨_, rfl⟩
  obtain ⟨hO, hk1, hk2⟩ := On.mk' (env := env) hW1 hW2 hS hk hev
  have e1 := (block_cells hk1).1 1
  have g1 := (block_cells hk1).2 1
  have q0 : W2.cell? ⟨w.heap.size, 0, none⟩ = some (.int .i8 x.kind) := (block_cells hO.n).1 0
  have q1 : W2.cell? ⟨w.heap.size, 1, none⟩ = some (.int .i64 x.kids) := (block_cells hO.n).1 1
  have q2 : W2.cell? ⟨w.heap.size, 2, none⟩ = some (.int .i64 x.n) := (block_cells hO.n).1 2
  have q3 : W2.cell? ⟨w.heap.size, 3, none⟩ = some (.string x.s) := (block_cells hO.n).1 3
  have q4 : W2.cell? ⟨w.heap.size, 4, none⟩ = some (.string x.t) := (block_cells hO.n).1 4
  have q5 : W2.cell? ⟨w.heap.size, 5, none⟩ = some (.string x.u) := (block_cells hO.n).1 5
  have q6 : W2.cell? ⟨w.heap.size, 6, none⟩ = some (.int .i64 x.ln) := (block_cells hO.n).1 6
  have q7 : W2.cell? ⟨w.heap.size, 7, none⟩ = some (.int .i64 x.co) := (block_cells hO.n).1 7
  have hA := dahead_any x i env.length hk2
  have hlen : env.length ≤ 200000 := by omega
  rw [hah] at hA
  have hk0 := kids_of10 htk hκ (n := 0) (by decide) (by decide)
  obtain rfl : ks = [] := List.length_eq_zero_iff.1 (by omega)
  have hah2 := ahdD_none hah (by omega)
  have hb : 0 ≤ x.n ∧ x.n < (env.length : Int) := by
    have h := hah2
    unfold ahd at h
    rw [if_neg (by omega), if_neg (by omega), if_pos hκ] at h
    split at h
    · assumption
    · cases h
  obtain ⟨k, hkn⟩ : ∃ k : Nat, x.n = (k : Int) := ⟨x.n.toNat, by omega⟩
  have hkl : k < env.length := by omega
  obtain ⟨t, ht⟩ : ∃ t, env[k]? = some t := ⟨_, List.getElem?_eq_getElem hkl⟩
  have hr : tyT env (.nd x []) i = .ok t := by
    rw [tyT_plain10 hah2 (by omega)]
    show rul env x i [] = _
    unfold rul
    simp [hκ, hkn, ht]
  rw [hr]
  have hkl' : (k : Int) < (env.length : Int) := by omega
  have hk00 : (0 : Int) ≤ (k : Int) := by omega
  have HKI : Aside (x.kind = 4) := hκ
  have HKN : Aside (x.n = (k : Int)) := hkn
  clear hah hah2 hT hwk hd hE htk hkk hN hr hk0 hb hκ hkn
  clear hcx hk1 hk2 hS hk hev hx
  go_enter Try.func69, Try.ntmps69
  go_upto_region 3 with fail
  rw [← hW1]
  clear hW1 p0 p1 p2 p3 p4 p5 p6 p7 c0 c1
  go_upto_region 4 with fail
  rw [← hW2]
  clear hW2 e1 g1
  go_wp2_with fail
  refine hA.mono ?_
  clear hA q0 q1 q2 q3 q4 q5 q6 q7
  rintro e w3 ⟨rfl, hg3, hk3⟩
  replace hO := hO.grown hg3
  clear hg3
  have m2 := (block_cells hk3).1 2
  have hκ := HKI.out
  have hkn := HKN.out
  have n0 : w3.cell? ⟨w.heap.size, 0, none⟩ = some (.int .i8 x.kind) := (block_cells hO.n).1 0
  have n2 : w3.cell? ⟨w.heap.size, 2, none⟩ = some (.int .i64 x.n) := (block_cells hO.n).1 2
  rw [hκ] at n0
  rw [hkn] at n2
  obtain ⟨b2, o2, c2, h1, h2, h3, h4⟩ := texts_form11 (fun h => by rw [h] at hkl; simp at hkl) hO.e.e.1
  obtain ⟨rfl, rfl⟩ : ea = some ⟨b2, o2, none⟩ ∧ ec = c2 := by simpa using h1
  have h5 := h4 k t ht
  have hE : DtEnd w wb ab (.slice (some ⟨b1, o1, none⟩) l.length vc) l (i + 1 + (flats []).length) (.ok t) (.returned (.string (S (enc t)))) w3 := ⟨hO.tw, hO.s, rfl, hk3⟩
  change w3.cell? ⟨wb, 2, none⟩ = some (.int .i64 0) at m2
  clear hO hk3 hκ h1 h3 h4 hkn ht
  generalize S (enc t) = st at *
  go_wp2_with fail
  go_ret
  exact hE
end Go.Proofs.Ytnhihajhhlilfaa
