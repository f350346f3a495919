/- The document's rules: leaves, operations. The document's rules: operations. The document's rules: Call. -/
import Derived.Test.YthihnkgjkmaplaaGreatDoorUav
import Derived.Test.YthihnkgjkmaplaaGreatDoorUan
namespace Go.Proofs.YthihnkgjkmaplaaGreatDoor
open Go.RowKit Ck
open T3.Tp (Ty enc cns met)
open Tr (T Nd nm)
set_option maxRecDepth 100000
set_option linter.unusedSimpArgs false
set_option linter.unusedVariables false

set_option maxHeartbeats 4000000 in
theorem kda1 {w : World} {cb tb n : Nat} {nV : Value} {a0 : Int} {sm : Bool} {v ev : Value} (x : Tr.Nd) (i : Nat) (env : Env) (hC : KC w cb tb n nV 0 a0 sm) (hD : KD w cb tb n v []) (hκ : x.kind = 1) :
    Calls Tryz.prog 93 #[.pointer (some ⟨cb, 0, none⟩), .int .i64 (i : Int), .agg (ndA8 x), v, ev] w (KrEnd w cb tb n nV a0 sm (ruleD sm env x i [])) := by
  obtain ⟨va, vc, rfl⟩ := hD.len_form
  obtain ⟨W1, hW1⟩ : ∃ W1, W1 = w.alloc (.cells (ndA8 x) 64) := ⟨_, rfl⟩
  have hB1 : Below w.heap.size w W1 := by rw [hW1]; exact (Below.refl _ _).alloc (Nat.le_refl _) _
  have hT1 : Two cb cb w W1 := below_two hB1 cb cb
  have hC1 := hC.below hB1
  have hD1 := hD.two hT1
  have hx1 : W1.heap[w.heap.size]? = some (.cells (ndA8 x) 64) := by rw [hW1]; exact heap_alloc_new _ _
  have hcb := hC.lt
  have q0 : W1.cell? ⟨w.heap.size, 0, none⟩ = some (.int .i8 x.kind) := (block_cells hx1).1 0
  have q4 : W1.cell? ⟨w.heap.size, 4, none⟩ = some (.string x.t) := (block_cells hx1).1 4
  rw [hκ] at q0
  have cty : W1.cell? ⟨cb, 1, none⟩ = some (.slice (some ⟨tb, 0, none⟩) n n) := hC1.ty
  have hr : ruleD sm env x i [] = .ok .ti := by unfold ruleD; simp [hκ, useT, oprS, opT, asksS]
  have HE : Aside (KrEnd w cb tb n nV a0 sm (ruleD sm env x i []) (.returned (.string ⟨#[105]⟩)) W1) := KrEnd.ok hT1 hC1 hr rfl
  clear hr hC hD hC1 hD1 hT1 hB1 hx1 hκ hcb
  go_enter Tryz.func93, Tryz.ntmps93
  go_upto_region 1 with fail
  try rw [← hW1]
  clear hW1
  go_wp2_with fail
  go_ret
  exact HE.out
set_option maxHeartbeats 4000000 in
theorem kda2 {w : World} {cb tb n : Nat} {nV : Value} {a0 : Int} {sm : Bool} {v ev : Value} (x : Tr.Nd) (i : Nat) (env : Env) (hC : KC w cb tb n nV 0 a0 sm) (hD : KD w cb tb n v []) (hκ : x.kind = 2) :
    Calls Tryz.prog 93 #[.pointer (some ⟨cb, 0, none⟩), .int .i64 (i : Int), .agg (ndA8 x), v, ev] w (KrEnd w cb tb n nV a0 sm (ruleD sm env x i [])) := by
  obtain ⟨va, vc, rfl⟩ := hD.len_form
  obtain ⟨W1, hW1⟩ : ∃ W1, W1 = w.alloc (.cells (ndA8 x) 64) := ⟨_, rfl⟩
  have hB1 : Below w.heap.size w W1 := by rw [hW1]; exact (Below.refl _ _).alloc (Nat.le_refl _) _
  have hT1 : Two cb cb w W1 := below_two hB1 cb cb
  have hC1 := hC.below hB1
  have hD1 := hD.two hT1
  have hx1 : W1.heap[w.heap.size]? = some (.cells (ndA8 x) 64) := by rw [hW1]; exact heap_alloc_new _ _
  have hcb := hC.lt
  have q0 : W1.cell? ⟨w.heap.size, 0, none⟩ = some (.int .i8 x.kind) := (block_cells hx1).1 0
  have q4 : W1.cell? ⟨w.heap.size, 4, none⟩ = some (.string x.t) := (block_cells hx1).1 4
  rw [hκ] at q0
  have cty : W1.cell? ⟨cb, 1, none⟩ = some (.slice (some ⟨tb, 0, none⟩) n n) := hC1.ty
  have hr : ruleD sm env x i [] = .ok .tt := by unfold ruleD; simp [hκ, useT, oprS, opT, asksS]
  have HE : Aside (KrEnd w cb tb n nV a0 sm (ruleD sm env x i []) (.returned (.string ⟨#[116]⟩)) W1) := KrEnd.ok hT1 hC1 hr rfl
  clear hr hC hD hC1 hD1 hT1 hB1 hx1 hκ hcb
  go_enter Tryz.func93, Tryz.ntmps93
  go_upto_region 1 with fail
  try rw [← hW1]
  clear hW1
  go_wp2_with fail
  go_ret
  exact HE.out
set_option maxHeartbeats 4000000 in
theorem kda3 {w : World} {cb tb n : Nat} {nV : Value} {a0 : Int} {sm : Bool} {v ev : Value} (x : Tr.Nd) (i : Nat) (env : Env) (hC : KC w cb tb n nV 0 a0 sm) (hD : KD w cb tb n v []) (hκ : x.kind = 3) :
    Calls Tryz.prog 93 #[.pointer (some ⟨cb, 0, none⟩), .int .i64 (i : Int), .agg (ndA8 x), v, ev] w (KrEnd w cb tb n nV a0 sm (ruleD sm env x i [])) := by
  obtain ⟨va, vc, rfl⟩ := hD.len_form
  obtain ⟨W1, hW1⟩ : ∃ W1, W1 = w.alloc (.cells (ndA8 x) 64) := ⟨_, rfl⟩
  have hB1 : Below w.heap.size w W1 := by rw [hW1]; exact (Below.refl _ _).alloc (Nat.le_refl _) _
  have hT1 : Two cb cb w W1 := below_two hB1 cb cb
  have hC1 := hC.below hB1
  have hD1 := hD.two hT1
  have hx1 : W1.heap[w.heap.size]? = some (.cells (ndA8 x) 64) := by rw [hW1]; exact heap_alloc_new _ _
  have hcb := hC.lt
  have q0 : W1.cell? ⟨w.heap.size, 0, none⟩ = some (.int .i8 x.kind) := (block_cells hx1).1 0
  have q4 : W1.cell? ⟨w.heap.size, 4, none⟩ = some (.string x.t) := (block_cells hx1).1 4
  rw [hκ] at q0
  have cty : W1.cell? ⟨cb, 1, none⟩ = some (.slice (some ⟨tb, 0, none⟩) n n) := hC1.ty
  have hr : ruleD sm env x i [] = .ok .tb := by unfold ruleD; simp [hκ, useT, oprS, opT, asksS]
  have HE : Aside (KrEnd w cb tb n nV a0 sm (ruleD sm env x i []) (.returned (.string ⟨#[98]⟩)) W1) := KrEnd.ok hT1 hC1 hr rfl
  clear hr hC hD hC1 hD1 hT1 hB1 hx1 hκ hcb
  go_enter Tryz.func93, Tryz.ntmps93
  go_upto_region 1 with fail
  try rw [← hW1]
  clear hW1
  go_wp2_with fail
  go_ret
  exact HE.out
set_option maxHeartbeats 4000000 in
theorem kda10 {w : World} {cb tb n : Nat} {nV : Value} {a0 : Int} {sm : Bool} {v ev : Value} (x : Tr.Nd) (i : Nat) (env : Env) (k0 k1 : Nat × Ty) (hC : KC w cb tb n nV 0 a0 sm) (hD : KD w cb tb n v [k0, k1]) (hκ : x.kind = 10) :
    Calls Tryz.prog 93 #[.pointer (some ⟨cb, 0, none⟩), .int .i64 (i : Int), .agg (ndA8 x), v, ev] w (KrEnd w cb tb n nV a0 sm (ruleD sm env x i [k0, k1])) := by
  obtain ⟨va, vc, rfl⟩ := hD.len_form
  obtain ⟨W1, hW1⟩ : ∃ W1, W1 = w.alloc (.cells (ndA8 x) 64) := ⟨_, rfl⟩
  have hB1 : Below w.heap.size w W1 := by rw [hW1]; exact (Below.refl _ _).alloc (Nat.le_refl _) _
  have hT1 : Two cb cb w W1 := below_two hB1 cb cb
  have hC1 := hC.below hB1
  have hD1 := hD.two hT1
  have hx1 : W1.heap[w.heap.size]? = some (.cells (ndA8 x) 64) := by rw [hW1]; exact heap_alloc_new _ _
  have hcb := hC.lt
  have q0 : W1.cell? ⟨w.heap.size, 0, none⟩ = some (.int .i8 x.kind) := (block_cells hx1).1 0
  have q4 : W1.cell? ⟨w.heap.size, 4, none⟩ = some (.string x.t) := (block_cells hx1).1 4
  rw [hκ] at q0
  have cty : W1.cell? ⟨cb, 1, none⟩ = some (.slice (some ⟨tb, 0, none⟩) n n) := hC1.ty
  obtain ⟨kb, ko, rfl, hkc, p0, n0, t0, z0⟩ := hD1.at (j := 0) (k := k0) rfl
  rw [Nat.add_zero] at p0
  obtain ⟨kb1, ko1, e1, -, p1, n1, t1, z1⟩ := hD1.at (j := 1) (k := k1) rfl
  cases e1
  have i0 : ((k0.1 : Nat) : Int) < (n : Int) := by omega
  have i0' : (0 : Int) ≤ ((k0.1 : Nat) : Int) := by omega
  have i1 : ((k1.1 : Nat) : Int) < (n : Int) := by omega
  have i1' : (0 : Int) ≤ ((k1.1 : Nat) : Int) := by omega
  have hh := keach_any W1 cb tb n a0 sm _ [k0, k1] .ti (by decide) hC1 hD1
  rw [show S (enc .ti) = ⟨#[105]⟩ from rfl] at hh
  obtain ⟨M, hM⟩ : ∃ M, asksS sm .ti [k0, k1] = M := ⟨_, rfl⟩
  have hr : ruleD sm env x i [k0, k1] = match M with | .error e => .error e | .ok _ => .ok .ti := by
    unfold ruleD
    simp [hκ, useT, oprS, opT, hM]
    cases M <;> rfl
  rw [hM] at hh
  have HE : Aside (∀ w2, KC w2 cb tb n nV (cdE M) (cdA a0 M) sm → Two cb cb W1 w2 → KrEnd w cb tb n nV a0 sm (ruleD sm env x i [k0, k1]) (.returned (.string ⟨#[105]⟩)) w2) := fun w2 h1 h2 => by
    rw [hr]
    cases M with
    | error q => exact KrEnd.bad (q := q) (hT1.trans h2) h1 rfl _
    | ok t => exact KrEnd.ok (hT1.trans h2) h1 rfl rfl
  clear hr hC hD hC1 hD1 hT1 hB1 hx1 hκ hcb hM
  go_enter Tryz.func93, Tryz.ntmps93
  go_upto_region 1 with fail
  try rw [← hW1]
  clear hW1
  go_wp2_with fail
  refine hh.mono ?_
  rintro e w2 ⟨rfl, h1, h2⟩
  have hE := HE.out w2 h1 h2
  clear hh HE h1 h2
  go_wp2_with fail
  go_ret
  exact hE
set_option maxHeartbeats 4000000 in
theorem kda11 {w : World} {cb tb n : Nat} {nV : Value} {a0 : Int} {sm : Bool} {v ev : Value} (x : Tr.Nd) (i : Nat) (env : Env) (k0 k1 : Nat × Ty) (hC : KC w cb tb n nV 0 a0 sm) (hD : KD w cb tb n v [k0, k1]) (hκ : x.kind = 11) :
    Calls Tryz.prog 93 #[.pointer (some ⟨cb, 0, none⟩), .int .i64 (i : Int), .agg (ndA8 x), v, ev] w (KrEnd w cb tb n nV a0 sm (ruleD sm env x i [k0, k1])) := by
  obtain ⟨va, vc, rfl⟩ := hD.len_form
  obtain ⟨W1, hW1⟩ : ∃ W1, W1 = w.alloc (.cells (ndA8 x) 64) := ⟨_, rfl⟩
  have hB1 : Below w.heap.size w W1 := by rw [hW1]; exact (Below.refl _ _).alloc (Nat.le_refl _) _
  have hT1 : Two cb cb w W1 := below_two hB1 cb cb
  have hC1 := hC.below hB1
  have hD1 := hD.two hT1
  have hx1 : W1.heap[w.heap.size]? = some (.cells (ndA8 x) 64) := by rw [hW1]; exact heap_alloc_new _ _
  have hcb := hC.lt
  have q0 : W1.cell? ⟨w.heap.size, 0, none⟩ = some (.int .i8 x.kind) := (block_cells hx1).1 0
  have q4 : W1.cell? ⟨w.heap.size, 4, none⟩ = some (.string x.t) := (block_cells hx1).1 4
  rw [hκ] at q0
  have cty : W1.cell? ⟨cb, 1, none⟩ = some (.slice (some ⟨tb, 0, none⟩) n n) := hC1.ty
  obtain ⟨kb, ko, rfl, hkc, p0, n0, t0, z0⟩ := hD1.at (j := 0) (k := k0) rfl
  rw [Nat.add_zero] at p0
  obtain ⟨kb1, ko1, e1, -, p1, n1, t1, z1⟩ := hD1.at (j := 1) (k := k1) rfl
  cases e1
  have i0 : ((k0.1 : Nat) : Int) < (n : Int) := by omega
  have i0' : (0 : Int) ≤ ((k0.1 : Nat) : Int) := by omega
  have i1 : ((k1.1 : Nat) : Int) < (n : Int) := by omega
  have i1' : (0 : Int) ≤ ((k1.1 : Nat) : Int) := by omega
  have hh := keach_any W1 cb tb n a0 sm _ [k0, k1] .ti (by decide) hC1 hD1
  rw [show S (enc .ti) = ⟨#[105]⟩ from rfl] at hh
  obtain ⟨M, hM⟩ : ∃ M, asksS sm .ti [k0, k1] = M := ⟨_, rfl⟩
  have hr : ruleD sm env x i [k0, k1] = match M with | .error e => .error e | .ok _ => .ok .ti := by
    unfold ruleD
    simp [hκ, useT, oprS, opT, hM]
    cases M <;> rfl
  rw [hM] at hh
  have HE : Aside (∀ w2, KC w2 cb tb n nV (cdE M) (cdA a0 M) sm → Two cb cb W1 w2 → KrEnd w cb tb n nV a0 sm (ruleD sm env x i [k0, k1]) (.returned (.string ⟨#[105]⟩)) w2) := fun w2 h1 h2 => by
    rw [hr]
    cases M with
    | error q => exact KrEnd.bad (q := q) (hT1.trans h2) h1 rfl _
    | ok t => exact KrEnd.ok (hT1.trans h2) h1 rfl rfl
  clear hr hC hD hC1 hD1 hT1 hB1 hx1 hκ hcb hM
  go_enter Tryz.func93, Tryz.ntmps93
  go_upto_region 1 with fail
  try rw [← hW1]
  clear hW1
  go_wp2_with fail
  refine hh.mono ?_
  rintro e w2 ⟨rfl, h1, h2⟩
  have hE := HE.out w2 h1 h2
  clear hh HE h1 h2
  go_wp2_with fail
  go_ret
  exact hE
set_option maxHeartbeats 4000000 in
theorem kda12 {w : World} {cb tb n : Nat} {nV : Value} {a0 : Int} {sm : Bool} {v ev : Value} (x : Tr.Nd) (i : Nat) (env : Env) (k0 k1 : Nat × Ty) (hC : KC w cb tb n nV 0 a0 sm) (hD : KD w cb tb n v [k0, k1]) (hκ : x.kind = 12) :
    Calls Tryz.prog 93 #[.pointer (some ⟨cb, 0, none⟩), .int .i64 (i : Int), .agg (ndA8 x), v, ev] w (KrEnd w cb tb n nV a0 sm (ruleD sm env x i [k0, k1])) := by
  obtain ⟨va, vc, rfl⟩ := hD.len_form
  obtain ⟨W1, hW1⟩ : ∃ W1, W1 = w.alloc (.cells (ndA8 x) 64) := ⟨_, rfl⟩
  have hB1 : Below w.heap.size w W1 := by rw [hW1]; exact (Below.refl _ _).alloc (Nat.le_refl _) _
  have hT1 : Two cb cb w W1 := below_two hB1 cb cb
  have hC1 := hC.below hB1
  have hD1 := hD.two hT1
  have hx1 : W1.heap[w.heap.size]? = some (.cells (ndA8 x) 64) := by rw [hW1]; exact heap_alloc_new _ _
  have hcb := hC.lt
  have q0 : W1.cell? ⟨w.heap.size, 0, none⟩ = some (.int .i8 x.kind) := (block_cells hx1).1 0
  have q4 : W1.cell? ⟨w.heap.size, 4, none⟩ = some (.string x.t) := (block_cells hx1).1 4
  rw [hκ] at q0
  have cty : W1.cell? ⟨cb, 1, none⟩ = some (.slice (some ⟨tb, 0, none⟩) n n) := hC1.ty
  obtain ⟨kb, ko, rfl, hkc, p0, n0, t0, z0⟩ := hD1.at (j := 0) (k := k0) rfl
  rw [Nat.add_zero] at p0
  obtain ⟨kb1, ko1, e1, -, p1, n1, t1, z1⟩ := hD1.at (j := 1) (k := k1) rfl
  cases e1
  have i0 : ((k0.1 : Nat) : Int) < (n : Int) := by omega
  have i0' : (0 : Int) ≤ ((k0.1 : Nat) : Int) := by omega
  have i1 : ((k1.1 : Nat) : Int) < (n : Int) := by omega
  have i1' : (0 : Int) ≤ ((k1.1 : Nat) : Int) := by omega
  have hh := keach_any W1 cb tb n a0 sm _ [k0, k1] .ti (by decide) hC1 hD1
  rw [show S (enc .ti) = ⟨#[105]⟩ from rfl] at hh
  obtain ⟨M, hM⟩ : ∃ M, asksS sm .ti [k0, k1] = M := ⟨_, rfl⟩
  have hr : ruleD sm env x i [k0, k1] = match M with | .error e => .error e | .ok _ => .ok .ti := by
    unfold ruleD
    simp [hκ, useT, oprS, opT, hM]
    cases M <;> rfl
  rw [hM] at hh
  have HE : Aside (∀ w2, KC w2 cb tb n nV (cdE M) (cdA a0 M) sm → Two cb cb W1 w2 → KrEnd w cb tb n nV a0 sm (ruleD sm env x i [k0, k1]) (.returned (.string ⟨#[105]⟩)) w2) := fun w2 h1 h2 => by
    rw [hr]
    cases M with
    | error q => exact KrEnd.bad (q := q) (hT1.trans h2) h1 rfl _
    | ok t => exact KrEnd.ok (hT1.trans h2) h1 rfl rfl
  clear hr hC hD hC1 hD1 hT1 hB1 hx1 hκ hcb hM
  go_enter Tryz.func93, Tryz.ntmps93
  go_upto_region 1 with fail
  try rw [← hW1]
  clear hW1
  go_wp2_with fail
  refine hh.mono ?_
  rintro e w2 ⟨rfl, h1, h2⟩
  have hE := HE.out w2 h1 h2
  clear hh HE h1 h2
  go_wp2_with fail
  go_ret
  exact hE
end Go.Proofs.YthihnkgjkmaplaaGreatDoor
namespace Go.Proofs.YthihnkgjkmaplaaGreatDoor
open Go.RowKit Ck
open T3.Tp (Ty enc cns met)
open Tr (T Nd nm)
set_option maxRecDepth 100000
set_option linter.unusedSimpArgs false
set_option linter.unusedVariables false

set_option maxHeartbeats 4000000 in
theorem kda16 {w : World} {cb tb n : Nat} {nV : Value} {a0 : Int} {sm : Bool} {v ev : Value} (x : Tr.Nd) (i : Nat) (env : Env) (k0 : Nat × Ty) (hC : KC w cb tb n nV 0 a0 sm) (hD : KD w cb tb n v [k0]) (hκ : x.kind = 16) :
    Calls Tryz.prog 93 #[.pointer (some ⟨cb, 0, none⟩), .int .i64 (i : Int), .agg (ndA8 x), v, ev] w (KrEnd w cb tb n nV a0 sm (ruleD sm env x i [k0])) := by
  obtain ⟨va, vc, rfl⟩ := hD.len_form
  obtain ⟨W1, hW1⟩ : ∃ W1, W1 = w.alloc (.cells (ndA8 x) 64) := ⟨_, rfl⟩
  have hB1 : Below w.heap.size w W1 := by rw [hW1]; exact (Below.refl _ _).alloc (Nat.le_refl _) _
  have hT1 : Two cb cb w W1 := below_two hB1 cb cb
  have hC1 := hC.below hB1
  have hD1 := hD.two hT1
  have hx1 : W1.heap[w.heap.size]? = some (.cells (ndA8 x) 64) := by rw [hW1]; exact heap_alloc_new _ _
  have hcb := hC.lt
  have q0 : W1.cell? ⟨w.heap.size, 0, none⟩ = some (.int .i8 x.kind) := (block_cells hx1).1 0
  have q4 : W1.cell? ⟨w.heap.size, 4, none⟩ = some (.string x.t) := (block_cells hx1).1 4
  rw [hκ] at q0
  have cty : W1.cell? ⟨cb, 1, none⟩ = some (.slice (some ⟨tb, 0, none⟩) n n) := hC1.ty
  obtain ⟨kb, ko, rfl, hkc, p0, n0, t0, z0⟩ := hD1.at (j := 0) (k := k0) rfl
  rw [Nat.add_zero] at p0
  have i0 : ((k0.1 : Nat) : Int) < (n : Int) := by omega
  have i0' : (0 : Int) ≤ ((k0.1 : Nat) : Int) := by omega
  have hh := keach_any W1 cb tb n a0 sm _ [k0] .ti (by decide) hC1 hD1
  rw [show S (enc .ti) = ⟨#[105]⟩ from rfl] at hh
  obtain ⟨M, hM⟩ : ∃ M, asksS sm .ti [k0] = M := ⟨_, rfl⟩
  have hr : ruleD sm env x i [k0] = match M with | .error e => .error e | .ok _ => .ok .ti := by
    unfold ruleD
    simp [hκ, useT, oprS, opT, hM]
    cases M <;> rfl
  rw [hM] at hh
  have HE : Aside (∀ w2, KC w2 cb tb n nV (cdE M) (cdA a0 M) sm → Two cb cb W1 w2 → KrEnd w cb tb n nV a0 sm (ruleD sm env x i [k0]) (.returned (.string ⟨#[105]⟩)) w2) := fun w2 h1 h2 => by
    rw [hr]
    cases M with
    | error q => exact KrEnd.bad (q := q) (hT1.trans h2) h1 rfl _
    | ok t => exact KrEnd.ok (hT1.trans h2) h1 rfl rfl
  clear hr hC hD hC1 hD1 hT1 hB1 hx1 hκ hcb hM
  go_enter Tryz.func93, Tryz.ntmps93
  go_upto_region 1 with fail
  try rw [← hW1]
  clear hW1
  go_wp2_with fail
  refine hh.mono ?_
  rintro e w2 ⟨rfl, h1, h2⟩
  have hE := HE.out w2 h1 h2
  clear hh HE h1 h2
  go_wp2_with fail
  go_ret
  exact hE
set_option maxHeartbeats 4000000 in
theorem kda17 {w : World} {cb tb n : Nat} {nV : Value} {a0 : Int} {sm : Bool} {v ev : Value} (x : Tr.Nd) (i : Nat) (env : Env) (k0 : Nat × Ty) (hC : KC w cb tb n nV 0 a0 sm) (hD : KD w cb tb n v [k0]) (hκ : x.kind = 17) :
    Calls Tryz.prog 93 #[.pointer (some ⟨cb, 0, none⟩), .int .i64 (i : Int), .agg (ndA8 x), v, ev] w (KrEnd w cb tb n nV a0 sm (ruleD sm env x i [k0])) := by
  obtain ⟨va, vc, rfl⟩ := hD.len_form
  obtain ⟨W1, hW1⟩ : ∃ W1, W1 = w.alloc (.cells (ndA8 x) 64) := ⟨_, rfl⟩
  have hB1 : Below w.heap.size w W1 := by rw [hW1]; exact (Below.refl _ _).alloc (Nat.le_refl _) _
  have hT1 : Two cb cb w W1 := below_two hB1 cb cb
  have hC1 := hC.below hB1
  have hD1 := hD.two hT1
  have hx1 : W1.heap[w.heap.size]? = some (.cells (ndA8 x) 64) := by rw [hW1]; exact heap_alloc_new _ _
  have hcb := hC.lt
  have q0 : W1.cell? ⟨w.heap.size, 0, none⟩ = some (.int .i8 x.kind) := (block_cells hx1).1 0
  have q4 : W1.cell? ⟨w.heap.size, 4, none⟩ = some (.string x.t) := (block_cells hx1).1 4
  rw [hκ] at q0
  have cty : W1.cell? ⟨cb, 1, none⟩ = some (.slice (some ⟨tb, 0, none⟩) n n) := hC1.ty
  obtain ⟨kb, ko, rfl, hkc, p0, n0, t0, z0⟩ := hD1.at (j := 0) (k := k0) rfl
  rw [Nat.add_zero] at p0
  have i0 : ((k0.1 : Nat) : Int) < (n : Int) := by omega
  have i0' : (0 : Int) ≤ ((k0.1 : Nat) : Int) := by omega
  have hh := keach_any W1 cb tb n a0 sm _ [k0] .tt (by decide) hC1 hD1
  rw [show S (enc .tt) = ⟨#[116]⟩ from rfl] at hh
  obtain ⟨M, hM⟩ : ∃ M, asksS sm .tt [k0] = M := ⟨_, rfl⟩
  have hr : ruleD sm env x i [k0] = match M with | .error e => .error e | .ok _ => .ok .ti := by
    unfold ruleD
    simp [hκ, useT, oprS, opT, hM]
    cases M <;> rfl
  rw [hM] at hh
  have HE : Aside (∀ w2, KC w2 cb tb n nV (cdE M) (cdA a0 M) sm → Two cb cb W1 w2 → KrEnd w cb tb n nV a0 sm (ruleD sm env x i [k0]) (.returned (.string ⟨#[105]⟩)) w2) := fun w2 h1 h2 => by
    rw [hr]
    cases M with
    | error q => exact KrEnd.bad (q := q) (hT1.trans h2) h1 rfl _
    | ok t => exact KrEnd.ok (hT1.trans h2) h1 rfl rfl
  clear hr hC hD hC1 hD1 hT1 hB1 hx1 hκ hcb hM
  go_enter Tryz.func93, Tryz.ntmps93
  go_upto_region 1 with fail
  try rw [← hW1]
  clear hW1
  go_wp2_with fail
  refine hh.mono ?_
  rintro e w2 ⟨rfl, h1, h2⟩
  have hE := HE.out w2 h1 h2
  clear hh HE h1 h2
  go_wp2_with fail
  go_ret
  exact hE
set_option maxHeartbeats 4000000 in
theorem kda13 {w : World} {cb tb n : Nat} {nV : Value} {a0 : Int} {sm : Bool} {v ev : Value} (x : Tr.Nd) (i : Nat) (env : Env) (k0 k1 : Nat × Ty) (hC : KC w cb tb n nV 0 a0 sm) (hD : KD w cb tb n v [k0, k1]) (hκ : x.kind = 13) :
    Calls Tryz.prog 93 #[.pointer (some ⟨cb, 0, none⟩), .int .i64 (i : Int), .agg (ndA8 x), v, ev] w (KrEnd w cb tb n nV a0 sm (ruleD sm env x i [k0, k1])) := by
  obtain ⟨va, vc, rfl⟩ := hD.len_form
  obtain ⟨W1, hW1⟩ : ∃ W1, W1 = w.alloc (.cells (ndA8 x) 64) := ⟨_, rfl⟩
  have hB1 : Below w.heap.size w W1 := by rw [hW1]; exact (Below.refl _ _).alloc (Nat.le_refl _) _
  have hT1 : Two cb cb w W1 := below_two hB1 cb cb
  have hC1 := hC.below hB1
  have hD1 := hD.two hT1
  have hx1 : W1.heap[w.heap.size]? = some (.cells (ndA8 x) 64) := by rw [hW1]; exact heap_alloc_new _ _
  have hcb := hC.lt
  have q0 : W1.cell? ⟨w.heap.size, 0, none⟩ = some (.int .i8 x.kind) := (block_cells hx1).1 0
  have q4 : W1.cell? ⟨w.heap.size, 4, none⟩ = some (.string x.t) := (block_cells hx1).1 4
  rw [hκ] at q0
  have cty : W1.cell? ⟨cb, 1, none⟩ = some (.slice (some ⟨tb, 0, none⟩) n n) := hC1.ty
  obtain ⟨kb, ko, rfl, hkc, p0, n0, t0, z0⟩ := hD1.at (j := 0) (k := k0) rfl
  rw [Nat.add_zero] at p0
  obtain ⟨kb1, ko1, e1, -, p1, n1, t1, z1⟩ := hD1.at (j := 1) (k := k1) rfl
  cases e1
  have i0 : ((k0.1 : Nat) : Int) < (n : Int) := by omega
  have i0' : (0 : Int) ≤ ((k0.1 : Nat) : Int) := by omega
  have i1 : ((k1.1 : Nat) : Int) < (n : Int) := by omega
  have i1' : (0 : Int) ≤ ((k1.1 : Nat) : Int) := by omega
  have hh := keach_any W1 cb tb n a0 sm _ [k0, k1] .tt (by decide) hC1 hD1
  rw [show S (enc .tt) = ⟨#[116]⟩ from rfl] at hh
  obtain ⟨M, hM⟩ : ∃ M, asksS sm .tt [k0, k1] = M := ⟨_, rfl⟩
  have hr : ruleD sm env x i [k0, k1] = match M with | .error e => .error e | .ok _ => .ok .tt := by
    unfold ruleD
    simp [hκ, useT, oprS, opT, hM]
    cases M <;> rfl
  rw [hM] at hh
  have HE : Aside (∀ w2, KC w2 cb tb n nV (cdE M) (cdA a0 M) sm → Two cb cb W1 w2 → KrEnd w cb tb n nV a0 sm (ruleD sm env x i [k0, k1]) (.returned (.string ⟨#[116]⟩)) w2) := fun w2 h1 h2 => by
    rw [hr]
    cases M with
    | error q => exact KrEnd.bad (q := q) (hT1.trans h2) h1 rfl _
    | ok t => exact KrEnd.ok (hT1.trans h2) h1 rfl rfl
  clear hr hC hD hC1 hD1 hT1 hB1 hx1 hκ hcb hM
  go_enter Tryz.func93, Tryz.ntmps93
  go_upto_region 1 with fail
  try rw [← hW1]
  clear hW1
  go_wp2_with fail
  refine hh.mono ?_
  rintro e w2 ⟨rfl, h1, h2⟩
  have hE := HE.out w2 h1 h2
  clear hh HE h1 h2
  go_wp2_with fail
  go_ret
  exact hE
set_option maxHeartbeats 4000000 in
theorem kda14 {w : World} {cb tb n : Nat} {nV : Value} {a0 : Int} {sm : Bool} {v ev : Value} (x : Tr.Nd) (i : Nat) (env : Env) (k0 k1 : Nat × Ty) (hC : KC w cb tb n nV 0 a0 sm) (hD : KD w cb tb n v [k0, k1]) (hκ : x.kind = 14) :
    Calls Tryz.prog 93 #[.pointer (some ⟨cb, 0, none⟩), .int .i64 (i : Int), .agg (ndA8 x), v, ev] w (KrEnd w cb tb n nV a0 sm (ruleD sm env x i [k0, k1])) := by
  obtain ⟨va, vc, rfl⟩ := hD.len_form
  obtain ⟨W1, hW1⟩ : ∃ W1, W1 = w.alloc (.cells (ndA8 x) 64) := ⟨_, rfl⟩
  have hB1 : Below w.heap.size w W1 := by rw [hW1]; exact (Below.refl _ _).alloc (Nat.le_refl _) _
  have hT1 : Two cb cb w W1 := below_two hB1 cb cb
  have hC1 := hC.below hB1
  have hD1 := hD.two hT1
  have hx1 : W1.heap[w.heap.size]? = some (.cells (ndA8 x) 64) := by rw [hW1]; exact heap_alloc_new _ _
  have hcb := hC.lt
  have q0 : W1.cell? ⟨w.heap.size, 0, none⟩ = some (.int .i8 x.kind) := (block_cells hx1).1 0
  have q4 : W1.cell? ⟨w.heap.size, 4, none⟩ = some (.string x.t) := (block_cells hx1).1 4
  rw [hκ] at q0
  have cty : W1.cell? ⟨cb, 1, none⟩ = some (.slice (some ⟨tb, 0, none⟩) n n) := hC1.ty
  obtain ⟨kb, ko, rfl, hkc, p0, n0, t0, z0⟩ := hD1.at (j := 0) (k := k0) rfl
  rw [Nat.add_zero] at p0
  obtain ⟨kb1, ko1, e1, -, p1, n1, t1, z1⟩ := hD1.at (j := 1) (k := k1) rfl
  cases e1
  have i0 : ((k0.1 : Nat) : Int) < (n : Int) := by omega
  have i0' : (0 : Int) ≤ ((k0.1 : Nat) : Int) := by omega
  have i1 : ((k1.1 : Nat) : Int) < (n : Int) := by omega
  have i1' : (0 : Int) ≤ ((k1.1 : Nat) : Int) := by omega
  have hh := keach_any W1 cb tb n a0 sm _ [k0, k1] .ti (by decide) hC1 hD1
  rw [show S (enc .ti) = ⟨#[105]⟩ from rfl] at hh
  obtain ⟨M, hM⟩ : ∃ M, asksS sm .ti [k0, k1] = M := ⟨_, rfl⟩
  have hr : ruleD sm env x i [k0, k1] = match M with | .error e => .error e | .ok _ => .ok .tb := by
    unfold ruleD
    simp [hκ, useT, oprS, opT, hM]
    cases M <;> rfl
  rw [hM] at hh
  have HE : Aside (∀ w2, KC w2 cb tb n nV (cdE M) (cdA a0 M) sm → Two cb cb W1 w2 → KrEnd w cb tb n nV a0 sm (ruleD sm env x i [k0, k1]) (.returned (.string ⟨#[98]⟩)) w2) := fun w2 h1 h2 => by
    rw [hr]
    cases M with
    | error q => exact KrEnd.bad (q := q) (hT1.trans h2) h1 rfl _
    | ok t => exact KrEnd.ok (hT1.trans h2) h1 rfl rfl
  clear hr hC hD hC1 hD1 hT1 hB1 hx1 hκ hcb hM
  go_enter Tryz.func93, Tryz.ntmps93
  go_upto_region 1 with fail
  try rw [← hW1]
  clear hW1
  go_wp2_with fail
  refine hh.mono ?_
  rintro e w2 ⟨rfl, h1, h2⟩
  have hE := HE.out w2 h1 h2
  clear hh HE h1 h2
  go_wp2_with fail
  go_ret
  exact hE
set_option maxHeartbeats 4000000 in
theorem kda15 {w : World} {cb tb n : Nat} {nV : Value} {a0 : Int} {sm : Bool} {v ev : Value} (x : Tr.Nd) (i : Nat) (env : Env) (k0 k1 : Nat × Ty) (hC : KC w cb tb n nV 0 a0 sm) (hD : KD w cb tb n v [k0, k1]) (hκ : x.kind = 15) :
    Calls Tryz.prog 93 #[.pointer (some ⟨cb, 0, none⟩), .int .i64 (i : Int), .agg (ndA8 x), v, ev] w (KrEnd w cb tb n nV a0 sm (ruleD sm env x i [k0, k1])) := by
  obtain ⟨va, vc, rfl⟩ := hD.len_form
  obtain ⟨W1, hW1⟩ : ∃ W1, W1 = w.alloc (.cells (ndA8 x) 64) := ⟨_, rfl⟩
  have hB1 : Below w.heap.size w W1 := by rw [hW1]; exact (Below.refl _ _).alloc (Nat.le_refl _) _
  have hT1 : Two cb cb w W1 := below_two hB1 cb cb
  have hC1 := hC.below hB1
  have hD1 := hD.two hT1
  have hx1 : W1.heap[w.heap.size]? = some (.cells (ndA8 x) 64) := by rw [hW1]; exact heap_alloc_new _ _
  have hcb := hC.lt
  have q0 : W1.cell? ⟨w.heap.size, 0, none⟩ = some (.int .i8 x.kind) := (block_cells hx1).1 0
  have q4 : W1.cell? ⟨w.heap.size, 4, none⟩ = some (.string x.t) := (block_cells hx1).1 4
  rw [hκ] at q0
  have cty : W1.cell? ⟨cb, 1, none⟩ = some (.slice (some ⟨tb, 0, none⟩) n n) := hC1.ty
  obtain ⟨kb, ko, rfl, hkc, p0, n0, t0, z0⟩ := hD1.at (j := 0) (k := k0) rfl
  rw [Nat.add_zero] at p0
  obtain ⟨kb1, ko1, e1, -, p1, n1, t1, z1⟩ := hD1.at (j := 1) (k := k1) rfl
  cases e1
  have i0 : ((k0.1 : Nat) : Int) < (n : Int) := by omega
  have i0' : (0 : Int) ≤ ((k0.1 : Nat) : Int) := by omega
  have i1 : ((k1.1 : Nat) : Int) < (n : Int) := by omega
  have i1' : (0 : Int) ≤ ((k1.1 : Nat) : Int) := by omega
  have hh := keach_any W1 cb tb n a0 sm _ [k0, k1] .ti (by decide) hC1 hD1
  rw [show S (enc .ti) = ⟨#[105]⟩ from rfl] at hh
  obtain ⟨M, hM⟩ : ∃ M, asksS sm .ti [k0, k1] = M := ⟨_, rfl⟩
  have hr : ruleD sm env x i [k0, k1] = match M with | .error e => .error e | .ok _ => .ok .tb := by
    unfold ruleD
    simp [hκ, useT, oprS, opT, hM]
    cases M <;> rfl
  rw [hM] at hh
  have HE : Aside (∀ w2, KC w2 cb tb n nV (cdE M) (cdA a0 M) sm → Two cb cb W1 w2 → KrEnd w cb tb n nV a0 sm (ruleD sm env x i [k0, k1]) (.returned (.string ⟨#[98]⟩)) w2) := fun w2 h1 h2 => by
    rw [hr]
    cases M with
    | error q => exact KrEnd.bad (q := q) (hT1.trans h2) h1 rfl _
    | ok t => exact KrEnd.ok (hT1.trans h2) h1 rfl rfl
  clear hr hC hD hC1 hD1 hT1 hB1 hx1 hκ hcb hM
  go_enter Tryz.func93, Tryz.ntmps93
  go_upto_region 1 with fail
  try rw [← hW1]
  clear hW1
  go_wp2_with fail
  refine hh.mono ?_
  rintro e w2 ⟨rfl, h1, h2⟩
  have hE := HE.out w2 h1 h2
  clear hh HE h1 h2
  go_wp2_with fail
  go_ret
  exact hE
end Go.Proofs.YthihnkgjkmaplaaGreatDoor
namespace Go.Proofs.YthihnkgjkmaplaaGreatDoor
open Go.RowKit Ck
open T3.Tp (Ty enc cns met)
open Tr (T Nd nm)
set_option maxRecDepth 100000
set_option linter.unusedSimpArgs false
set_option linter.unusedVariables false

set_option maxHeartbeats 4000000 in
theorem kda7 {w : World} {cb tb n : Nat} {nV : Value} {a0 : Int} {sm : Bool} {v ev : Value} (x : Tr.Nd) (i : Nat) (env : Env) (k0 k1 : Nat × Ty) (hC : KC w cb tb n nV 0 a0 sm) (hD : KD w cb tb n v [k0, k1]) (hκ : x.kind = 7) :
    Calls Tryz.prog 93 #[.pointer (some ⟨cb, 0, none⟩), .int .i64 (i : Int), .agg (ndA8 x), v, ev] w (KrEnd w cb tb n nV a0 sm (ruleD sm env x i [k0, k1])) := by
  obtain ⟨va, vc, rfl⟩ := hD.len_form
  obtain ⟨W1, hW1⟩ : ∃ W1, W1 = w.alloc (.cells (ndA8 x) 64) := ⟨_, rfl⟩
  have hB1 : Below w.heap.size w W1 := by rw [hW1]; exact (Below.refl _ _).alloc (Nat.le_refl _) _
  have hT1 : Two cb cb w W1 := below_two hB1 cb cb
  have hC1 := hC.below hB1
  have hD1 := hD.two hT1
  have hx1 : W1.heap[w.heap.size]? = some (.cells (ndA8 x) 64) := by rw [hW1]; exact heap_alloc_new _ _
  have hcb := hC.lt
  have q0 : W1.cell? ⟨w.heap.size, 0, none⟩ = some (.int .i8 x.kind) := (block_cells hx1).1 0
  have q4 : W1.cell? ⟨w.heap.size, 4, none⟩ = some (.string x.t) := (block_cells hx1).1 4
  rw [hκ] at q0
  have cty : W1.cell? ⟨cb, 1, none⟩ = some (.slice (some ⟨tb, 0, none⟩) n n) := hC1.ty
  obtain ⟨kb, ko, rfl, hkc, p0, n0, t0, z0⟩ := hD1.at (j := 0) (k := k0) rfl
  rw [Nat.add_zero] at p0
  obtain ⟨kb1, ko1, e1, -, p1, n1, t1, z1⟩ := hD1.at (j := 1) (k := k1) rfl
  cases e1
  have i0 : ((k0.1 : Nat) : Int) < (n : Int) := by omega
  have i0' : (0 : Int) ≤ ((k0.1 : Nat) : Int) := by omega
  have i1 : ((k1.1 : Nat) : Int) < (n : Int) := by omega
  have i1' : (0 : Int) ≤ ((k1.1 : Nat) : Int) := by omega
  cases hm : Ck.mt k0.2 62 with
  | none =>
    have hr : ruleD sm env x i [k0, k1] = .error (24, k0.1) := by unfold ruleD; simp [hκ, useT, useS, hm]
    have hh := khead_no W1 cb tb n a0 sm k0.1 62 0 (by simp) k0.2 hC1 n0 t0 z0 hm
    rw [show ((((62 : UInt8).toNat : Nat) : Int)) = 62 from rfl] at hh
    have HE : Aside (∀ w2 w3 s, KC w2 cb tb n nV 24 (k0.1 : Int) sm → Two cb cb W1 w2 → w3 = w2.drew → KrEnd w cb tb n nV a0 sm (ruleD sm env x i [k0, k1]) (.returned (.string s)) w3) := fun w2 w3 s h1 h2 h3 => KrEnd.bad (q := (24, k0.1)) (hT1.trans ⟨by rw [h3]; exact h2.os, by rw [h3]; exact h2.tape, by rw [h3]; exact h2.output, by rw [h3]; exact h2.size, by rw [h3]; exact h2.block⟩) (by rw [h3]; exact h1.drew) hr s
    have HD : Aside (KD W1 cb tb n (.slice (some ⟨kb, ko, none⟩) 2 vc) [k0, k1]) := hD1
    clear hr hC hD hC1 hT1 hB1 hx1 hκ hcb hm hD1 t0 t1 cty
    go_enter Tryz.func93, Tryz.ntmps93
    go_upto_region 1 with fail
    try rw [← hW1]
    clear hW1
    go_wp2_with fail
    refine hh.mono ?_
    rintro e w2 ⟨rfl, h1, h2⟩
    clear p0 p1
    have hD2 := HD.out.two h2
    obtain ⟨kb', ko', e0, -, p0, -, t0, -⟩ := KD.at (ks := [k0, k1]) hD2 (j := 1) (k := k1) rfl
    cases e0
    try rw [Nat.add_zero] at p0
    obtain ⟨kc, kd', e9, -, p9, -, -, -⟩ := KD.at (ks := [k0, k1]) hD2 (j := 0) (k := k0) rfl
    cases e9
    try rw [Nat.add_zero] at p9
    have cty : w2.cell? ⟨cb, 1, none⟩ = some (.slice (some ⟨tb, 0, none⟩) n n) := h1.ty
    have hE := fun s => HE.out w2 w2.drew s h1 h2 rfl
    have HSQ : Aside ((S (enc .tq)).size ≤ 64) := by show _ ≤ _; rw [S_size]; decide
    have hf := fun s t => kfits_old w2.drew cb tb n 24 (k0.1 : Int) (by decide) sm s t 23 (k1.1 : Int) h1.drew
    clear hh HE HD hD2
    generalize S (enc .tq) = sq at *
    generalize S (enc k1.2) = sf at *
    have hsq := HSQ.out
    go_wp2_with fail
    refine (khead_old w2 cb tb n 24 (k0.1 : Int) (by decide) sm _ _ _ h1).mono ?_
    rintro e w3 ⟨rfl, hw3⟩
    replace hw3 := hw3.symm
    subst hw3
    go_wp2_with fail
    go_still_tail 14, mix8
    go_wp2_with fail
    refine (hf _ _).mono ?_
    rintro e w4 ⟨rfl, hw4⟩
    subst hw4
    clear hf h1 h2
    go_wp2_with fail
    go_ret
    exact hE _
  | some q =>
    obtain ⟨A, B⟩ := q
    obtain ⟨zA, zB, -⟩ := mt_len hm z0
    have hr : ruleD sm env x i [k0, k1] = if cn sm k1.2 A then .ok (B) else .error (23, k1.1) := by
      unfold ruleD
      cases hcn : cn sm k1.2 A <;> simp [hκ, useT, useS, hm, othersS, giv, hcn]
    have hh := khead_yes W1 cb tb n a0 sm k0.1 62 0 (by simp) (by decide) k0.2 A B hC1 n0 t0 z0 hm (by simp)
    rw [show (((0 : Nat) : Int)) = 0 from rfl, if_pos rfl] at hh
    rw [show ((((62 : UInt8).toNat : Nat) : Int)) = 62 from rfl] at hh
    have HH2 : Aside (∀ w2, Below W1.heap.size W1 w2 → Calls Tryz.prog 115 #[.pointer (some ⟨cb, 0, none⟩), .int .i64 (k0.1 : Int), .int .u8 62, .int .i64 1] w2 fun en w' => en = .returned (.string (S (enc B))) ∧ Below w2.heap.size w2 w') := fun w2 hB => by
      have h := khead_yes w2 cb tb n a0 sm k0.1 62 1 (by simp) (by decide) k0.2 A B (hC1.below hB) n0 ((hB.cell (p := ⟨tb, k0.1, none⟩) (World.block_lt_of_cell? _ _ t0)).trans t0) z0 hm (by simp)
      exact h
    have HF : Aside (∀ w2, Below W1.heap.size W1 w2 → Calls Tryz.prog 114 #[.pointer (some ⟨cb, 0, none⟩), .string (S (enc k1.2)), .string (S (enc A)), .int .i64 23, .int .i64 (k1.1 : Int)] w2.drew fun en w' => en = .returned (.tuple #[]) ∧ ∀ s, s = S (enc (B)) → KrEnd w cb tb n nV a0 sm (ruleD sm env x i [k0, k1]) (.returned (.string s)) w') := fun w2 hB => by
      refine (kfits_any w2.drew cb tb n a0 sm k1.2 A z1 zA 23 (k1.1 : Int) (hC1.below hB).drew).mono ?_
      rintro e w3 ⟨rfl, h1, h2⟩
      refine ⟨rfl, fun s hs => ?_⟩
      have h3 : Two cb cb w w3 := hT1.trans ((below_two hB cb cb).trans h2.drewL)
      rw [hr]
      cases hcn : cn sm k1.2 A with
      | true => rw [hcn] at h1; exact KrEnd.ok h3 h1 rfl hs
      | false => rw [hcn] at h1; exact KrEnd.bad (q := (23, k1.1)) h3 h1 rfl s
    have HD : Aside (KD W1 cb tb n (.slice (some ⟨kb, ko, none⟩) 2 vc) [k0, k1] ∧ KC W1 cb tb n nV 0 a0 sm) := ⟨hD1, hC1⟩
    clear hr hC hD hC1 hT1 hB1 hx1 hκ hcb hm hD1 t0 t1 cty
    go_enter Tryz.func93, Tryz.ntmps93
    go_upto_region 1 with fail
    try rw [← hW1]
    clear hW1
    go_wp2_with fail
    refine hh.mono ?_
    rintro e w2 ⟨rfl, h2⟩
    clear hh p0 p1
    have hh2 := HH2.out w2 h2
    clear HH2
    have HB2 : Aside (Below W1.heap.size W1 w2) := h2
    clear h2
    obtain ⟨kc, kd', e9, -, p9, -, -, -⟩ := KD.at (ks := [k0, k1]) (HD.out.1.two (below_two HB2.out cb cb)) (j := 0) (k := k0) rfl
    cases e9
    try rw [Nat.add_zero] at p9
    generalize S (enc B) = sB at *
    generalize S (enc A) = sA at *
    go_wp2_with fail
    refine hh2.mono ?_
    rintro e w5 ⟨rfl, h5⟩
    clear hh2 p9
    have h2 : Below W1.heap.size W1 w5 := bt HB2.out h5
    clear h5 HB2
    rename_i w2old
    generalize hw25 : w5 = w2 at *
    clear hw25
    have hD2 := HD.out.1.two (below_two h2 cb cb)
    obtain ⟨kb', ko', e0, -, p0, -, t0, -⟩ := KD.at (ks := [k0, k1]) hD2 (j := 1) (k := k1) rfl
    cases e0
    try rw [Nat.add_zero] at p0
    have cty : w2.cell? ⟨cb, 1, none⟩ = some (.slice (some ⟨tb, 0, none⟩) n n) := (HD.out.2.below h2).ty
    have hf := HF.out w2 h2
    clear HF HD hD2 h2
    generalize S (enc k1.2) = sf at *
    go_wp2_with fail
    go_still_tail 14, mix8
    go_wp2_with fail
    refine hf.mono ?_
    rintro e w4 ⟨rfl, hE⟩
    clear hf
    go_wp2_with fail
    go_ret
    exact hE _ rfl
end Go.Proofs.YthihnkgjkmaplaaGreatDoor
