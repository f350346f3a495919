/- The document's rules: those of data. The document's annotations. The document's rules: Let. The document's rules: Fn, Rec. The document's rules: If. copy of elements of more than one cell, as a law for the walk. -/
import Derived.Test.YthihnkgjkmaplaaGreatDoorUav
import Derived.Test.YthihnkgjkmaplaaGreatDoorUaf
import Derived.Test.YthihnkgjkmaplaaGreatDoorUan
import Derived.Laws.CopyOwn
namespace Go.Proofs.YthihnkgjkmaplaaGreatDoor
open Go.RowKit Ck
open T3.Tp (Ty enc cns met)
open Tr (T Nd nm)
set_option maxRecDepth 100000
set_option linter.unusedSimpArgs false
set_option linter.unusedVariables false

set_option maxHeartbeats 4000000 in
theorem kru_data {w : World} {cb tb n : Nat} {nV : Value} {a0 : Int} {sm : Bool} {v ev : Value} (x : Tr.Nd) (i : Nat) (env : Env) (ks : List (Nat × Ty)) (hC : KC w cb tb n nV 0 a0 sm) (hκ : 18 ≤ x.kind) (hDa : ∀ W, Below w.heap.size w W → Calls Tryz.prog 118 #[.pointer (some ⟨cb, 0, none⟩), .int .i64 (i : Int), .agg (ndA8 x), v] W (KrEnd W cb tb n nV a0 sm (ruleD sm env x i ks))) :
    Calls Tryz.prog 93 #[.pointer (some ⟨cb, 0, none⟩), .int .i64 (i : Int), .agg (ndA8 x), v, ev] w (KrEnd w cb tb n nV a0 sm (ruleD sm env x i ks)) := by
  obtain ⟨W1, hW1⟩ : ∃ W1, W1 = w.alloc (.cells (ndA8 x) 64) := ⟨_, rfl⟩
  have hB1 : Below w.heap.size w W1 := by rw [hW1]; exact (Below.refl _ _).alloc (Nat.le_refl _) _
  have hT1 : Two cb cb w W1 := below_two hB1 cb cb
  have hC1 := hC.below hB1
  have hx1 : W1.heap[w.heap.size]? = some (.cells (ndA8 x) 64) := by rw [hW1]; exact heap_alloc_new _ _
  have hcb := hC.lt
  have q0 : W1.cell? ⟨w.heap.size, 0, none⟩ = some (.int .i8 x.kind) := (block_cells hx1).1 0
  have q4 : W1.cell? ⟨w.heap.size, 4, none⟩ = some (.string x.t) := (block_cells hx1).1 4
  have cty : W1.cell? ⟨cb, 1, none⟩ = some (.slice (some ⟨tb, 0, none⟩) n n) := hC1.ty
  have q1 : W1.cell? ⟨w.heap.size, 1, none⟩ = some (.int .i64 x.kids) := (block_cells hx1).1 1
  have q2 : W1.cell? ⟨w.heap.size, 2, none⟩ = some (.int .i64 x.n) := (block_cells hx1).1 2
  have q3 : W1.cell? ⟨w.heap.size, 3, none⟩ = some (.string x.s) := (block_cells hx1).1 3
  have q5 : W1.cell? ⟨w.heap.size, 5, none⟩ = some (.string x.u) := (block_cells hx1).1 5
  have q6 : W1.cell? ⟨w.heap.size, 6, none⟩ = some (.int .i64 x.ln) := (block_cells hx1).1 6
  have q7 : W1.cell? ⟨w.heap.size, 7, none⟩ = some (.int .i64 x.co) := (block_cells hx1).1 7
  have y1 : (x.kind == 1) = false := beq_eq_false_iff_ne.2 (by omega)
  have y2 : (x.kind == 2) = false := beq_eq_false_iff_ne.2 (by omega)
  have y3 : (x.kind == 3) = false := beq_eq_false_iff_ne.2 (by omega)
  have y4 : (x.kind == 4) = false := beq_eq_false_iff_ne.2 (by omega)
  have y5 : (x.kind == 5) = false := beq_eq_false_iff_ne.2 (by omega)
  have y6 : (x.kind == 6) = false := beq_eq_false_iff_ne.2 (by omega)
  have y7 : (x.kind == 7) = false := beq_eq_false_iff_ne.2 (by omega)
  have y8 : (x.kind == 8) = false := beq_eq_false_iff_ne.2 (by omega)
  have y9 : (x.kind == 9) = false := beq_eq_false_iff_ne.2 (by omega)
  have y10 : (x.kind == 10) = false := beq_eq_false_iff_ne.2 (by omega)
  have y11 : (x.kind == 11) = false := beq_eq_false_iff_ne.2 (by omega)
  have y12 : (x.kind == 12) = false := beq_eq_false_iff_ne.2 (by omega)
  have y13 : (x.kind == 13) = false := beq_eq_false_iff_ne.2 (by omega)
  have y14 : (x.kind == 14) = false := beq_eq_false_iff_ne.2 (by omega)
  have y15 : (x.kind == 15) = false := beq_eq_false_iff_ne.2 (by omega)
  have y16 : (x.kind == 16) = false := beq_eq_false_iff_ne.2 (by omega)
  have y17 : (x.kind == 17) = false := beq_eq_false_iff_ne.2 (by omega)
  have hd := hDa W1 hB1
  have HE : Aside (∀ e w2, KrEnd W1 cb tb n nV a0 sm (ruleD sm env x i ks) e w2 → KrEnd w cb tb n nV a0 sm (ruleD sm env x i ks) e w2) := fun e w2 h => KrEnd.from hT1 h
  clear hC hC1 hT1 hB1 hx1 hκ hcb hDa
  go_enter Tryz.func93, Tryz.ntmps93
  go_upto_region 1 with fail
  try rw [← hW1]
  clear hW1
  go_wp2_with fail
  refine hd.mono ?_
  intro e w2 h2
  obtain ⟨h3, h4, s, rfl, h5⟩ := HE.out e w2 h2
  have hE : KrEnd w cb tb n nV a0 sm (ruleD sm env x i ks) (.returned (.string s)) w2 := ⟨h3, h4, s, rfl, h5⟩
  clear hd h2 HE h3 h4 h5
  go_wp2_with fail
  go_ret
  exact hE
end Go.Proofs.YthihnkgjkmaplaaGreatDoor
namespace Go.Proofs.YthihnkgjkmaplaaGreatDoor
open Go.RowKit Ck
open T3.Tp (Ty enc cns met)
open Tr (T Nd nm)
set_option maxRecDepth 100000
set_option linter.unusedSimpArgs false
set_option linter.unusedVariables false

theorem knote_any {s : ByteArray} (h : s = ⟨#[]⟩ ∨ s = S (enc (wr s))) (w : World) : Calls Tryz.prog 89 #[.string s] w fun e w' => e = .returned (.string (S (enc (wr s)))) ∧ w' = w := by
  rcases h with h | h
  · subst h
    exact T3.knote_empty w
  · have := T3.knote_type (wr s) w
    rw [show T3.S (T3.Tp.enc (wr s)) = s from h.symm] at this
    rw [show S (enc (wr s)) = s from h.symm]
    exact this
end Go.Proofs.YthihnkgjkmaplaaGreatDoor
namespace Go.Proofs.YthihnkgjkmaplaaGreatDoor
open Go.RowKit Ck
open T3.Tp (Ty enc cns met)
open Tr (T Nd nm)
set_option maxRecDepth 100000
set_option linter.unusedSimpArgs false
set_option linter.unusedVariables false

set_option maxHeartbeats 4000000 in
theorem kda8 {w : World} {cb tb n : Nat} {nV : Value} {a0 : Int} {sm : Bool} {v ev : Value} (x : Tr.Nd) (i : Nat) (env : Env) (k0 k1 : Nat × Ty) (hC : KC w cb tb n nV 0 a0 sm) (hD : KD w cb tb n v [k0, k1]) (hκ : x.kind = 8) (hxt : x.t = ⟨#[]⟩ ∨ x.t = S (enc (wr x.t))) (hz : (enc (wr x.t)).length ≤ 64) :
    Calls Tryz.prog 93 #[.pointer (some ⟨cb, 0, none⟩), .int .i64 (i : Int), .agg (ndA8 x), v, ev] w (KrEnd w cb tb n nV a0 sm (ruleD sm env x i [k0, k1])) := by
  obtain ⟨va, vc, rfl⟩ := hD.len_form
  obtain ⟨W1, hW1⟩ : ∃ W1, W1 = w.alloc (.cells (ndA8 x) 64) := ⟨_, rfl⟩
  have hB1 : Below w.heap.size w W1 := by rw [hW1]; exact (Below.refl _ _).alloc (Nat.le_refl _) _
  have hT1 : Two cb cb w W1 := below_two hB1 cb cb
  have hC1 := hC.below hB1
  have hD1 := hD.two hT1
  have hx1 : W1.heap[w.heap.size]? = some (.cells (ndA8 x) 64) := by rw [hW1]; exact heap_alloc_new _ _
  have hcb := hC.lt
  have q0 : W1.cell? ⟨w.heap.size, 0, none⟩ = some (.int .i8 x.kind) := (block_cells hx1).1 0
  have q4 : W1.cell? ⟨w.heap.size, 4, none⟩ = some (.string x.t) := (block_cells hx1).1 4
  rw [hκ] at q0
  have cty : W1.cell? ⟨cb, 1, none⟩ = some (.slice (some ⟨tb, 0, none⟩) n n) := hC1.ty
  obtain ⟨kb, ko, rfl, hkc, p0, n0, t0, z0⟩ := hD1.at (j := 0) (k := k0) rfl
  rw [Nat.add_zero] at p0
  obtain ⟨kb1, ko1, e1, -, p1, n1, t1, z1⟩ := hD1.at (j := 1) (k := k1) rfl
  cases e1
  have i0 : ((k0.1 : Nat) : Int) < (n : Int) := by omega
  have i0' : (0 : Int) ≤ ((k0.1 : Nat) : Int) := by omega
  have i1 : ((k1.1 : Nat) : Int) < (n : Int) := by omega
  have i1' : (0 : Int) ≤ ((k1.1 : Nat) : Int) := by omega
  have hr : ruleD sm env x i [k0, k1] = if cn sm k0.2 (wr x.t) then .ok k1.2 else .error (23, k0.1) := by unfold ruleD; simp [hκ]
  have HF : Aside (Calls Tryz.prog 114 #[.pointer (some ⟨cb, 0, none⟩), .string (S (enc k0.2)), .string (S (enc (wr x.t))), .int .i64 23, .int .i64 (k0.1 : Int)] W1.drew fun en w' => en = .returned (.tuple #[]) ∧ KD w' cb tb n (.slice (some ⟨kb, ko, none⟩) 2 vc) [k0, k1] ∧ w'.cell? ⟨cb, 1, none⟩ = some (.slice (some ⟨tb, 0, none⟩) n n) ∧ ∀ m, KrEnd w cb tb n nV a0 sm (ruleD sm env x i [k0, k1]) (.returned (.string (S (enc k1.2)))) (w'.drewN m)) := by
    refine (kfits_any W1.drew cb tb n a0 sm k0.2 (wr x.t) z0 hz 23 (k0.1 : Int) hC1.drew).mono ?_
    rintro e w3 ⟨rfl, h1, h2⟩
    have h3 : Two cb cb w w3 := hT1.trans h2.drewL
    refine ⟨rfl, hD1.two h2.drewL, h1.ty, fun m => ?_⟩
    rw [hr]
    cases hcn : cn sm k0.2 (wr x.t) with
    | true => rw [hcn] at h1; exact KrEnd.ok (h3.drewN8 m) (h1.drewN8 m) rfl rfl
    | false => rw [hcn] at h1; exact KrEnd.bad (q := (23, k0.1)) (h3.drewN8 m) (h1.drewN8 m) rfl _
  have hf := HF.out
  have hnt := fun w => knote_any hxt w
  clear hr hC hD hC1 hD1 hT1 hB1 hx1 hκ hcb HF hxt hz p1 t1
  generalize S (enc k0.2) = sf at *
  generalize S (enc (wr x.t)) = sn at *
  go_enter Tryz.func93, Tryz.ntmps93
  go_upto_region 1 with fail
  try rw [← hW1]
  clear hW1
  go_wp2_with fail
  refine wp_region_still_tail 16 mix8 (by kernel_rfl) ?_
  simp only [List.take_succ_cons, List.take_zero, List.drop_succ_cons, List.drop_zero]
  repeat still_step
  still_call (hnt _)
  repeat still_step
  refine wpStill_nil ?_
  go_wp2_with fail
  refine hf.mono ?_
  rintro e w4 ⟨rfl, hD4, cty4, hE⟩
  obtain ⟨kb', ko', e0, -, p1, -, t1, -⟩ := KD.at (ks := [k0, k1]) hD4 (j := 1) (k := k1) rfl
  cases e0
  clear hf hD4 p0 t0 cty
  generalize S (enc k1.2) = s1 at *
  go_wp2_with fail
  go_quiet (fail)
  go_wp2_with fail
  go_ret
  exact hE _
end Go.Proofs.YthihnkgjkmaplaaGreatDoor
namespace Go.Proofs.YthihnkgjkmaplaaGreatDoor
open Go.RowKit Ck
open T3.Tp (Ty enc cns met)
open Tr (T Nd nm)
set_option maxRecDepth 100000
set_option linter.unusedSimpArgs false
set_option linter.unusedVariables false

set_option maxHeartbeats 4000000 in
theorem kda5 {w : World} {cb tb n : Nat} {nV : Value} {a0 : Int} {sm : Bool} {v ev : Value} (x : Tr.Nd) (i : Nat) (env : Env) (k0 : Nat × Ty) (hC : KC w cb tb n nV 0 a0 sm) (hD : KD w cb tb n v [k0]) (hκ : x.kind = 5) (hxt : x.t = ⟨#[]⟩ ∨ x.t = S (enc (wr x.t))) (hz : (enc (wr x.t)).length ≤ 64) (hxu : x.u = ⟨#[]⟩ ∨ x.u = S (enc (wr x.u))) (hzu : (enc (wr x.u)).length ≤ 64) :
    Calls Tryz.prog 93 #[.pointer (some ⟨cb, 0, none⟩), .int .i64 (i : Int), .agg (ndA8 x), v, ev] w (KrEnd w cb tb n nV a0 sm (ruleD sm env x i [k0])) := by
  obtain ⟨va, vc, rfl⟩ := hD.len_form
  obtain ⟨W1, hW1⟩ : ∃ W1, W1 = w.alloc (.cells (ndA8 x) 64) := ⟨_, rfl⟩
  have hB1 : Below w.heap.size w W1 := by rw [hW1]; exact (Below.refl _ _).alloc (Nat.le_refl _) _
  have hT1 : Two cb cb w W1 := below_two hB1 cb cb
  have hC1 := hC.below hB1
  have hD1 := hD.two hT1
  have hx1 : W1.heap[w.heap.size]? = some (.cells (ndA8 x) 64) := by rw [hW1]; exact heap_alloc_new _ _
  have hcb := hC.lt
  have q0 : W1.cell? ⟨w.heap.size, 0, none⟩ = some (.int .i8 x.kind) := (block_cells hx1).1 0
  have q4 : W1.cell? ⟨w.heap.size, 4, none⟩ = some (.string x.t) := (block_cells hx1).1 4
  rw [hκ] at q0
  have cty : W1.cell? ⟨cb, 1, none⟩ = some (.slice (some ⟨tb, 0, none⟩) n n) := hC1.ty
  obtain ⟨kb, ko, rfl, hkc, p0, n0, t0, z0⟩ := hD1.at (j := 0) (k := k0) rfl
  rw [Nat.add_zero] at p0
  have i0 : ((k0.1 : Nat) : Int) < (n : Int) := by omega
  have i0' : (0 : Int) ≤ ((k0.1 : Nat) : Int) := by omega
  have q5 : W1.cell? ⟨w.heap.size, 5, none⟩ = some (.string x.u) := (block_cells hx1).1 5
  have hr : ruleD sm env x i [k0] = if cn sm k0.2 (wr x.u) then .ok (.tf (wr x.t) (wr x.u)) else .error (23, k0.1) := by unfold ruleD; simp [hκ]
  have HF : Aside (Calls Tryz.prog 114 #[.pointer (some ⟨cb, 0, none⟩), .string (S (enc k0.2)), .string (S (enc (wr x.u))), .int .i64 23, .int .i64 (k0.1 : Int)] W1.drew fun en w' => en = .returned (.tuple #[]) ∧ w'.cell? ⟨w.heap.size, 4, none⟩ = some (.string x.t) ∧ w'.cell? ⟨w.heap.size, 5, none⟩ = some (.string x.u) ∧ KrEnd w cb tb n nV a0 sm (ruleD sm env x i [k0]) (.returned (.string (S (enc (.tf (wr x.t) (wr x.u)))))) w'.drew) := by
    refine (kfits_any W1.drew cb tb n a0 sm k0.2 (wr x.u) z0 hzu 23 (k0.1 : Int) hC1.drew).mono ?_
    rintro e w3 ⟨rfl, h1, h2⟩
    have h3 : Two cb cb w w3.drew := hT1.trans (h2.drewL.trans ⟨rfl, rfl, rfl, Nat.le_refl _, fun _ _ _ _ => rfl⟩)
    have hlt := (Array.getElem?_eq_some_iff.1 hx1).1
    refine ⟨rfl, (h2.cell (p := ⟨w.heap.size, 4, none⟩) hlt (by show w.heap.size ≠ cb; omega) (by show w.heap.size ≠ cb; omega)).trans q4, (h2.cell (p := ⟨w.heap.size, 5, none⟩) hlt (by show w.heap.size ≠ cb; omega) (by show w.heap.size ≠ cb; omega)).trans q5, ?_⟩
    rw [hr]
    cases hcn : cn sm k0.2 (wr x.u) with
    | true => rw [hcn] at h1; exact KrEnd.ok h3 h1.drew rfl rfl
    | false => rw [hcn] at h1; exact KrEnd.bad (q := (23, k0.1)) h3 h1.drew rfl _
  have hf := HF.out
  have hnt := fun w => knote_any hxt w
  have hnu := fun w => knote_any hxu w
  have ha1 : (⟨#[62]⟩ : ByteArray) ++ S (enc (wr x.t)) = S (62 :: enc (wr x.t)) := S_add8 [62] (enc (wr x.t))
  have ha2 : S (62 :: enc (wr x.t)) ++ S (enc (wr x.u)) = S (enc (.tf (wr x.t) (wr x.u))) := S_add8 (62 :: enc (wr x.t)) (enc (wr x.u))
  have hS0 : (S (enc (wr x.t))).size ≤ 64 := by rw [S_size]; exact hz
  have hS1 : (S (enc (wr x.u))).size ≤ 64 := by rw [S_size]; exact hzu
  have hS2 : (S (62 :: enc (wr x.t))).size ≤ 65 := by rw [S_size]; simp; omega
  have k1 : ¬ 9223372036854775807 < 1 + (S (enc (wr x.t))).size := by omega
  have k2 : ¬ 9223372036854775807 < (S (62 :: enc (wr x.t))).size + (S (enc (wr x.u))).size := by omega
  clear hr hC hD hC1 hD1 hT1 hB1 hx1 hκ hcb HF hxt hz hxu hzu
  generalize S (enc k0.2) = sf at *
  generalize S (enc (.tf (wr x.t) (wr x.u))) = s3 at *
  generalize S (62 :: enc (wr x.t)) = s2 at *
  generalize S (enc (wr x.t)) = s0 at *
  generalize S (enc (wr x.u)) = s1 at *
  go_enter Tryz.func93, Tryz.ntmps93
  go_upto_region 1 with fail
  try rw [← hW1]
  clear hW1
  go_wp2_with fail
  refine wp_region_still_tail 16 mix8 (by kernel_rfl) ?_
  simp only [List.take_succ_cons, List.take_zero, List.drop_succ_cons, List.drop_zero]
  repeat still_step
  still_call (hnu _)
  repeat still_step
  refine wpStill_nil ?_
  go_wp2_with fail
  refine hf.mono ?_
  rintro e w4 ⟨rfl, q4', q5', hE⟩
  clear hf p0 t0 cty q4 q5
  go_wp2_with fail
  refine wp_region_still_lit mix8 (by kernel_rfl) ?_
  repeat still_step
  still_call (hnt _)
  repeat still_step
  still_call (hnu _)
  repeat still_step
  refine wpStill_nil ?_
  go_wp2_with fail
  go_ret
  exact hE
set_option maxHeartbeats 4000000 in
theorem kda6 {w : World} {cb tb n : Nat} {nV : Value} {a0 : Int} {sm : Bool} {v ev : Value} (x : Tr.Nd) (i : Nat) (env : Env) (k0 : Nat × Ty) (hC : KC w cb tb n nV 0 a0 sm) (hD : KD w cb tb n v [k0]) (hκ : x.kind = 6) (hxt : x.t = ⟨#[]⟩ ∨ x.t = S (enc (wr x.t))) (hz : (enc (wr x.t)).length ≤ 64) (hxu : x.u = ⟨#[]⟩ ∨ x.u = S (enc (wr x.u))) (hzu : (enc (wr x.u)).length ≤ 64) :
    Calls Tryz.prog 93 #[.pointer (some ⟨cb, 0, none⟩), .int .i64 (i : Int), .agg (ndA8 x), v, ev] w (KrEnd w cb tb n nV a0 sm (ruleD sm env x i [k0])) := by
  obtain ⟨va, vc, rfl⟩ := hD.len_form
  obtain ⟨W1, hW1⟩ : ∃ W1, W1 = w.alloc (.cells (ndA8 x) 64) := ⟨_, rfl⟩
  have hB1 : Below w.heap.size w W1 := by rw [hW1]; exact (Below.refl _ _).alloc (Nat.le_refl _) _
  have hT1 : Two cb cb w W1 := below_two hB1 cb cb
  have hC1 := hC.below hB1
  have hD1 := hD.two hT1
  have hx1 : W1.heap[w.heap.size]? = some (.cells (ndA8 x) 64) := by rw [hW1]; exact heap_alloc_new _ _
  have hcb := hC.lt
  have q0 : W1.cell? ⟨w.heap.size, 0, none⟩ = some (.int .i8 x.kind) := (block_cells hx1).1 0
  have q4 : W1.cell? ⟨w.heap.size, 4, none⟩ = some (.string x.t) := (block_cells hx1).1 4
  rw [hκ] at q0
  have cty : W1.cell? ⟨cb, 1, none⟩ = some (.slice (some ⟨tb, 0, none⟩) n n) := hC1.ty
  obtain ⟨kb, ko, rfl, hkc, p0, n0, t0, z0⟩ := hD1.at (j := 0) (k := k0) rfl
  rw [Nat.add_zero] at p0
  have i0 : ((k0.1 : Nat) : Int) < (n : Int) := by omega
  have i0' : (0 : Int) ≤ ((k0.1 : Nat) : Int) := by omega
  have q5 : W1.cell? ⟨w.heap.size, 5, none⟩ = some (.string x.u) := (block_cells hx1).1 5
  have hr : ruleD sm env x i [k0] = if cn sm k0.2 (wr x.u) then .ok (.tf (wr x.t) (wr x.u)) else .error (23, k0.1) := by unfold ruleD; simp [hκ]
  have HF : Aside (Calls Tryz.prog 114 #[.pointer (some ⟨cb, 0, none⟩), .string (S (enc k0.2)), .string (S (enc (wr x.u))), .int .i64 23, .int .i64 (k0.1 : Int)] W1.drew fun en w' => en = .returned (.tuple #[]) ∧ w'.cell? ⟨w.heap.size, 4, none⟩ = some (.string x.t) ∧ w'.cell? ⟨w.heap.size, 5, none⟩ = some (.string x.u) ∧ KrEnd w cb tb n nV a0 sm (ruleD sm env x i [k0]) (.returned (.string (S (enc (.tf (wr x.t) (wr x.u)))))) w'.drew) := by
    refine (kfits_any W1.drew cb tb n a0 sm k0.2 (wr x.u) z0 hzu 23 (k0.1 : Int) hC1.drew).mono ?_
    rintro e w3 ⟨rfl, h1, h2⟩
    have h3 : Two cb cb w w3.drew := hT1.trans (h2.drewL.trans ⟨rfl, rfl, rfl, Nat.le_refl _, fun _ _ _ _ => rfl⟩)
    have hlt := (Array.getElem?_eq_some_iff.1 hx1).1
    refine ⟨rfl, (h2.cell (p := ⟨w.heap.size, 4, none⟩) hlt (by show w.heap.size ≠ cb; omega) (by show w.heap.size ≠ cb; omega)).trans q4, (h2.cell (p := ⟨w.heap.size, 5, none⟩) hlt (by show w.heap.size ≠ cb; omega) (by show w.heap.size ≠ cb; omega)).trans q5, ?_⟩
    rw [hr]
    cases hcn : cn sm k0.2 (wr x.u) with
    | true => rw [hcn] at h1; exact KrEnd.ok h3 h1.drew rfl rfl
    | false => rw [hcn] at h1; exact KrEnd.bad (q := (23, k0.1)) h3 h1.drew rfl _
  have hf := HF.out
  have hnt := fun w => knote_any hxt w
  have hnu := fun w => knote_any hxu w
  have ha1 : (⟨#[62]⟩ : ByteArray) ++ S (enc (wr x.t)) = S (62 :: enc (wr x.t)) := S_add8 [62] (enc (wr x.t))
  have ha2 : S (62 :: enc (wr x.t)) ++ S (enc (wr x.u)) = S (enc (.tf (wr x.t) (wr x.u))) := S_add8 (62 :: enc (wr x.t)) (enc (wr x.u))
  have hS0 : (S (enc (wr x.t))).size ≤ 64 := by rw [S_size]; exact hz
  have hS1 : (S (enc (wr x.u))).size ≤ 64 := by rw [S_size]; exact hzu
  have hS2 : (S (62 :: enc (wr x.t))).size ≤ 65 := by rw [S_size]; simp; omega
  have k1 : ¬ 9223372036854775807 < 1 + (S (enc (wr x.t))).size := by omega
  have k2 : ¬ 9223372036854775807 < (S (62 :: enc (wr x.t))).size + (S (enc (wr x.u))).size := by omega
  clear hr hC hD hC1 hD1 hT1 hB1 hx1 hκ hcb HF hxt hz hxu hzu
  generalize S (enc k0.2) = sf at *
  generalize S (enc (.tf (wr x.t) (wr x.u))) = s3 at *
  generalize S (62 :: enc (wr x.t)) = s2 at *
  generalize S (enc (wr x.t)) = s0 at *
  generalize S (enc (wr x.u)) = s1 at *
  go_enter Tryz.func93, Tryz.ntmps93
  go_upto_region 1 with fail
  try rw [← hW1]
  clear hW1
  go_wp2_with fail
  refine wp_region_still_tail 16 mix8 (by kernel_rfl) ?_
  simp only [List.take_succ_cons, List.take_zero, List.drop_succ_cons, List.drop_zero]
  repeat still_step
  still_call (hnu _)
  repeat still_step
  refine wpStill_nil ?_
  go_wp2_with fail
  refine hf.mono ?_
  rintro e w4 ⟨rfl, q4', q5', hE⟩
  clear hf p0 t0 cty q4 q5
  go_wp2_with fail
  refine wp_region_still_lit mix8 (by kernel_rfl) ?_
  repeat still_step
  still_call (hnt _)
  repeat still_step
  still_call (hnu _)
  repeat still_step
  refine wpStill_nil ?_
  go_wp2_with fail
  go_ret
  exact hE
end Go.Proofs.YthihnkgjkmaplaaGreatDoor
namespace Go.Proofs.YthihnkgjkmaplaaGreatDoor
open Go.RowKit Ck
open T3.Tp (Ty enc cns met)
open Tr (T Nd nm)
set_option maxRecDepth 100000
set_option linter.unusedSimpArgs false
set_option linter.unusedVariables false

set_option maxHeartbeats 4000000 in
theorem kda9 {w : World} {cb tb n : Nat} {nV : Value} {a0 : Int} {sm : Bool} {v ev : Value} (x : Tr.Nd) (i : Nat) (env : Env) (k0 k1 k2 : Nat × Ty) (hC : KC w cb tb n nV 0 a0 sm) (hD : KD w cb tb n v [k0, k1, k2]) (hκ : x.kind = 9) :
    Calls Tryz.prog 93 #[.pointer (some ⟨cb, 0, none⟩), .int .i64 (i : Int), .agg (ndA8 x), v, ev] w (KrEnd w cb tb n nV a0 sm (ruleD sm env x i [k0, k1, k2])) := by
  obtain ⟨va, vc, rfl⟩ := hD.len_form
  obtain ⟨W1, hW1⟩ : ∃ W1, W1 = w.alloc (.cells (ndA8 x) 64) := ⟨_, rfl⟩
  have hB1 : Below w.heap.size w W1 := by rw [hW1]; exact (Below.refl _ _).alloc (Nat.le_refl _) _
  have hT1 : Two cb cb w W1 := below_two hB1 cb cb
  have hC1 := hC.below hB1
  have hD1 := hD.two hT1
  have hx1 : W1.heap[w.heap.size]? = some (.cells (ndA8 x) 64) := by rw [hW1]; exact heap_alloc_new _ _
  have hcb := hC.lt
  have q0 : W1.cell? ⟨w.heap.size, 0, none⟩ = some (.int .i8 x.kind) := (block_cells hx1).1 0
  have q4 : W1.cell? ⟨w.heap.size, 4, none⟩ = some (.string x.t) := (block_cells hx1).1 4
  rw [hκ] at q0
  have cty : W1.cell? ⟨cb, 1, none⟩ = some (.slice (some ⟨tb, 0, none⟩) n n) := hC1.ty
  obtain ⟨kb, ko, rfl, hkc, p0, n0, t0, z0⟩ := hD1.at (j := 0) (k := k0) rfl
  rw [Nat.add_zero] at p0
  obtain ⟨kb1, ko1, e1, -, p1, n1, t1, z1⟩ := hD1.at (j := 1) (k := k1) rfl
  cases e1
  obtain ⟨kb2, ko2, e2, -, p2, n2, t2, z2⟩ := hD1.at (j := 2) (k := k2) rfl
  cases e2
  have i0 : ((k0.1 : Nat) : Int) < (n : Int) := by omega
  have i0' : (0 : Int) ≤ ((k0.1 : Nat) : Int) := by omega
  have i1 : ((k1.1 : Nat) : Int) < (n : Int) := by omega
  have i1' : (0 : Int) ≤ ((k1.1 : Nat) : Int) := by omega
  have i2 : ((k2.1 : Nat) : Int) < (n : Int) := by omega
  have i2' : (0 : Int) ≤ ((k2.1 : Nat) : Int) := by omega
  have hr : ruleD sm env x i [k0, k1, k2] = if cn sm k0.2 .tb then meetsS sm i k1.2 [k2] else .error (23, k0.1) := by unfold ruleD; simp [hκ]
  have hf := kfits_any W1.drew cb tb n a0 sm k0.2 .tb z0 (by decide) 23 (k0.1 : Int) hC1.drew
  rw [show S (enc .tb) = ⟨#[98]⟩ from rfl] at hf
  have hvc : 3 ≤ vc := by simpa using hkc
  cases hcn : cn sm k0.2 .tb with
  | false =>
    rw [hcn] at hf hr
    have HE : Aside (∀ w2, KC w2 cb tb n nV 23 (k0.1 : Int) sm → Two cb cb W1.drew w2 → ∀ s, KrEnd w cb tb n nV a0 sm (ruleD sm env x i [k0, k1, k2]) (.returned (.string s)) w2) := fun w2 h1 h2 s => KrEnd.bad (q := (23, k0.1)) (hT1.trans h2.drewL) h1 hr s
    clear hr hC hD hC1 hD1 hT1 hB1 hx1 hκ hcb hcn p1 p2 t1 t2
    generalize S (enc k0.2) = sf at *
    go_enter Tryz.func93, Tryz.ntmps93
    go_upto_region 1 with fail
    try rw [← hW1]
    clear hW1
    go_wp2_with fail
    go_still_tail 13, mix8
    go_wp2_with fail
    refine hf.mono ?_
    rintro e w4 ⟨rfl, h1, h2⟩
    have hE := HE.out w4 h1 h2
    have m2 : w4.cell? ⟨cb, 2, none⟩ = some (.int .i64 23) := h1.er
    clear hf h1 h2 HE p0 t0 cty
    go_wp2_with fail
    go_ret
    exact hE _
  | true =>
    rw [hcn] at hf hr
    simp only [if_true] at hf hr
    have HM : Aside (∀ w2, KC w2 cb tb n nV 0 a0 sm → Two cb cb W1.drew w2 → Calls Tryz.prog 116 #[.pointer (some ⟨cb, 0, none⟩), .slice (some ⟨kb, ko + 1, none⟩) 2 (vc - 1), .int .i64 (i : Int)] w2 (KrEnd w cb tb n nV a0 sm (ruleD sm env x i [k0, k1, k2]))) := fun w2 h1 h2 => by
      have hD2 := hD1.two h2.drewL
      have hD3 : KD w2 cb tb n (.slice (some ⟨kb, ko + 1, none⟩) 2 (vc - 1)) [k1, k2] := by
        refine ⟨?_, by simp, hD2.ne, fun k hk => hD2.ty k (List.mem_cons_of_mem _ hk)⟩
        rcases hD2.form with ⟨h, _⟩ | ⟨kb', o', c', e, g1, g2, g3, g4⟩
        · cases h
        · cases e
          refine .inr ⟨kb, ko + 1, vc - 1, rfl, by simp; omega, g2, g3, fun j k hj => ?_⟩
          have := g4 (j + 1) k (by simpa using hj)
          rw [show ko + 1 + j = ko + (j + 1) by omega]
          exact this
      refine (kmeets_any w2 cb tb n a0 sm _ k1 [k2] i h1 hD3).mono ?_
      rintro e w3 ⟨rfl, h3, h4⟩
      have h5 : Two cb cb w w3 := hT1.trans (h2.drewL.trans h4)
      rw [hr]
      cases hM : meetsS sm i k1.2 [k2] with
      | error q => rw [hM] at h3; exact KrEnd.bad (q := q) h5 h3 rfl _
      | ok t => rw [hM] at h3; exact KrEnd.ok h5 h3 rfl rfl
    clear hr hC hD hC1 hD1 hT1 hB1 hx1 hκ hcb hcn p1 p2 t1 t2
    generalize S (enc k0.2) = sf at *
    go_enter Tryz.func93, Tryz.ntmps93
    go_upto_region 1 with fail
    try rw [← hW1]
    clear hW1
    go_wp2_with fail
    go_still_tail 13, mix8
    go_wp2_with fail
    refine hf.mono ?_
    rintro e w4 ⟨rfl, h1, h2⟩
    have hM := HM.out w4 h1 h2
    have m2 : w4.cell? ⟨cb, 2, none⟩ = some (.int .i64 0) := h1.er
    clear hf h1 h2 HM p0 t0 cty
    go_wp2_with fail
    refine hM.mono ?_
    intro e w5 h5
    obtain ⟨h6, h7, s, rfl, h8⟩ := h5
    have hE : KrEnd w cb tb n nV a0 sm (ruleD sm env x i [k0, k1, k2]) (.returned (.string s)) w5 := ⟨h6, h7, s, rfl, h8⟩
    clear hM h6 h7 h8
    go_wp2_with fail
    go_ret
    exact hE
end Go.Proofs.YthihnkgjkmaplaaGreatDoor
namespace Go.Proofs.YthihnkgjkmaplaaGreatDoor
open Go.RowKit
set_option maxRecDepth 100000
set_option linter.unusedSimpArgs false

theorem run_copy_wide {P : Program} (w : World) (dT sT ty elem : TypeId) (z : Nat) (g o dLen dCap : Nat) (a : Addr) (sLen sCap : Nat) (cur : Array Value) (t : TypeId) (cs : List Value)
    (hu : P.underlying dT = some (.slice elem)) (hs : (P.info? elem).map (·.size) = some z)
    (hg : w.heap[g]? = some (.cells cur t (0, 0))) (hn : cs.length = Nat.min sLen dLen * z)
    (hsrc : ∀ j v, cs[j]? = some v → w.cell? (a.add j) = some v) (hfit : o + cs.length ≤ cur.size) (h1 : ∀ v ∈ cs, v.oneCell' = true) :
    (Builtin.copy_ #[dT, sT] ty #[.slice (some ⟨g, o, none⟩) dLen dCap, .slice (some a) sLen sCap]).run P w =
      .ok (goInt (Nat.min sLen dLen)) (w.setRow g (cur.toList.take o ++ cs ++ cur.toList.drop (o + cs.length)).toArray) := by
  have hl := run_loadCells_list (P := P) w a cs hsrc
  have hst := run_storeCells_at P g o t cs 0 cur w hg (by simpa using hfit) h1
  cases hq : P.info? elem with
  | none => simp [hq] at hs
  | some i =>
    have hi : i.size = z := by simpa [hq] using hs
    simp [Builtin.copy_, run_underlying hu, Builtin.lenOf, Builtin.firstCells, sizeOf, typeInfo, hq, hi, ← hn, hl, hst]
theorem run_copy_none_wide {P : Program} (w : World) (dT sT ty elem : TypeId) (z : Nat) (d a : Option Addr) (dLen dCap sLen sCap : Nat) (hu : P.underlying dT = some (.slice elem)) (hs : (P.info? elem).map (·.size) = some z) (hn : Nat.min sLen dLen = 0) :
    (Builtin.copy_ #[dT, sT] ty #[.slice d dLen dCap, .slice a sLen sCap]).run P w = .ok (goInt 0) w := by
  cases hq : P.info? elem with
  | none => simp [hq] at hs
  | some i =>
    have hl : ∀ (x : Addr), (loadCells x 0).run P w = .ok #[] w := fun x => by simpa using run_loadCells_list (P := P) w x [] (by simp)
    cases d <;> cases a <;> simp [Builtin.copy_, run_underlying hu, Builtin.lenOf, Builtin.firstCells, sizeOf, typeInfo, hq, hn, storeCells, hl]

/-- copy into a row that was made for it: as many elements on both sides. -/
theorem wpList_copy_whole {P : Program} {w : World} {ops : Array Oper} {rest : List Oper} {o : Oper} {a : Act} {Q : Exit → Act → World → Prop} (hgd : o.guard = none) (d s : Operand) (dT sT : TypeId)
    (ho : o.op = .call { callee := .builtin .copy, args := #[d, s], argTypes := #[dT, sT] }) (elem : TypeId) (z : Nat) (hu : P.underlying dT = some (.slice elem)) (hsz : (P.info? elem).map (·.size) = some z)
    (dp sp : Option Addr) (n dCap sCap : Nat) (hd : a.eval d = .slice dp n dCap) (hs : a.eval s = .slice sp n sCap)
    (g : Nat) (cur : List Value) (t : TypeId) (hg : w.heap[g]? = some (.cells cur.toArray t (0, 0))) (cs : List Value) (hn : cs.length = n * z) (hc : cur.length = n * z)
    (hpos : 0 < n → dp = some ⟨g, 0, none⟩ ∧ ∃ ad, sp = some ad ∧ ∀ j v, cs[j]? = some v → w.cell? (ad.add j) = some v)
    (h1 : ∀ v ∈ cs, v.oneCell' = true) (B : Nat) (w0 : World) (hb : Below B w0 w) (hBg : B ≤ g)
    (h : ∀ w', Hid (w'.heap[g]? = some (.cells cs.toArray t (0, 0))) → Below B w0 w' → wpList P ops Q rest (a.put o.dst (goInt n)) w') :
    wpList P ops Q (o :: rest) a w := by
  refine wpList_plain hgd fun K hK => ?_
  by_cases h0 : n = 0
  · subst h0
    have e1 : cs = [] := List.eq_nil_of_length_eq_zero (by omega)
    have e2 : cur = [] := List.eq_nil_of_length_eq_zero (by omega)
    subst e1 e2
    have hrun := run_copy_none_wide (P := P) w dT sT o.type elem z dp sp 0 dCap 0 sCap hu hsz rfl
    unfold Oper.wp
    simp [execOp, ho, resolve, invoke, builtin, hd, hs, hrun, Result.andThen]
    exact hK _ _ (h w hg hb)
  · obtain ⟨rfl, ad, rfl, hsrc⟩ := hpos (by omega)
    have hmm : Nat.min n n = n := Nat.min_self n
    have hrun := run_copy_wide (P := P) w dT sT o.type elem z g 0 n dCap ad n sCap cur.toArray t cs hu hsz hg (by rw [hn, hmm]) hsrc (by simp; omega) h1
    rw [hmm] at hrun
    unfold Oper.wp
    simp [execOp, ho, resolve, invoke, builtin, hd, hs, hrun, Result.andThen]
    refine hK _ _ ?_
    have e3 : cur.drop cs.length = [] := List.drop_eq_nil_of_le (by omega)
    rw [e3, List.append_nil]
    exact h _ (setRow_heap w g _ _ t _ hg) (below_setRow hb hBg _)
end Go.Proofs.YthihnkgjkmaplaaGreatDoor
