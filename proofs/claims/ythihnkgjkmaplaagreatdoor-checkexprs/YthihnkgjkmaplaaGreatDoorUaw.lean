/- The document's rules: Head, Tail, Empty, Get. The document's rules: Cons, Set. The document's rules: As. The document's rules: List. -/
import Derived.Test.YthihnkgjkmaplaaGreatDoorUav
import Derived.Test.YthihnkgjkmaplaaGreatDoorUan
namespace Go.Proofs.YthihnkgjkmaplaaGreatDoor
open Go.RowKit Ck
open T3.Tp (Ty enc cns met)
open Tr (T Nd nm)
set_option maxRecDepth 100000
set_option linter.unusedSimpArgs false
set_option linter.unusedVariables false

set_option maxHeartbeats 4000000 in
theorem kda22 {w : World} {cb tb n : Nat} {nV : Value} {a0 : Int} {sm : Bool} {v : Value} (x : Tr.Nd) (i : Nat) (env : Env) (k0 : Nat × Ty) (hC : KC w cb tb n nV 0 a0 sm) (hD : KD w cb tb n v [k0]) (hκ : x.kind = 22) :
    Calls Tryz.prog 118 #[.pointer (some ⟨cb, 0, none⟩), .int .i64 (i : Int), .agg (ndA8 x), v] w (KrEnd w cb tb n nV a0 sm (ruleD sm env x i [k0])) := by
  obtain ⟨va, vc, rfl⟩ := hD.len_form
  obtain ⟨W1, hW1⟩ : ∃ W1, W1 = w.alloc (.cells (ndA8 x) 64) := ⟨_, rfl⟩
  have hB1 : Below w.heap.size w W1 := by rw [hW1]; exact (Below.refl _ _).alloc (Nat.le_refl _) _
  have hT1 : Two cb cb w W1 := below_two hB1 cb cb
  have hC1 := hC.below hB1
  have hD1 := hD.two hT1
  have hx1 : W1.heap[w.heap.size]? = some (.cells (ndA8 x) 64) := by rw [hW1]; exact heap_alloc_new _ _
  have hcb := hC.lt
  have q0 : W1.cell? ⟨w.heap.size, 0, none⟩ = some (.int .i8 x.kind) := (block_cells hx1).1 0
  have q4 : W1.cell? ⟨w.heap.size, 4, none⟩ = some (.string x.t) := (block_cells hx1).1 4
  rw [hκ] at q0
  have cty : W1.cell? ⟨cb, 1, none⟩ = some (.slice (some ⟨tb, 0, none⟩) n n) := hC1.ty
  obtain ⟨kb, ko, rfl, hkc, p0, n0, t0, z0⟩ := hD1.at (j := 0) (k := k0) rfl
  rw [Nat.add_zero] at p0
  have i0 : ((k0.1 : Nat) : Int) < (n : Int) := by omega
  have i0' : (0 : Int) ≤ ((k0.1 : Nat) : Int) := by omega
  cases hm : Ck.mt k0.2 108 with
  | none =>
    have hr : ruleD sm env x i [k0] = .error (24, k0.1) := by unfold ruleD; simp [hκ, useT, useS, hm]
    have hh := khead_no W1 cb tb n a0 sm k0.1 108 0 (by simp) k0.2 hC1 n0 t0 z0 hm
    rw [show ((((108 : UInt8).toNat : Nat) : Int)) = 108 from rfl] at hh
    have HE : Aside (∀ w2 s, KC w2 cb tb n nV 24 (k0.1 : Int) sm → Two cb cb W1 w2 → KrEnd w cb tb n nV a0 sm (ruleD sm env x i [k0]) (.returned (.string s)) w2) := fun w2 s h1 h2 => KrEnd.bad (q := (24, k0.1)) (hT1.trans h2) h1 hr s
    clear hr hC hD hC1 hD1 hT1 hB1 hx1 hκ hcb hm
    go_enter Tryz.func118, Tryz.ntmps118
    go_upto_region 1 with fail
    try rw [← hW1]
    clear hW1
    go_wp2_with fail
    refine hh.mono ?_
    rintro e w2 ⟨rfl, h1, h2⟩
    have hE := fun s => HE.out w2 s h1 h2
    clear hh h1 h2 HE
    generalize S (enc .tq) = sq at *

    go_wp2_with fail
    go_ret
    exact hE _
  | some q =>
    obtain ⟨A, B⟩ := q
    obtain ⟨zA, zB, -⟩ := mt_len hm z0
    have hr : ruleD sm env x i [k0] = .ok (A) := by unfold ruleD; simp [hκ, useT, useS, hm, othersS, giv]
    have hh := khead_yes W1 cb tb n a0 sm k0.1 108 0 (by simp) (by decide) k0.2 A B hC1 n0 t0 z0 hm (by simp)
    rw [show (((0 : Nat) : Int)) = 0 from rfl] at hh
    rw [show ((((108 : UInt8).toNat : Nat) : Int)) = 108 from rfl] at hh
    have HE : Aside (∀ w2, Below W1.heap.size W1 w2 → KrEnd w cb tb n nV a0 sm (ruleD sm env x i [k0]) (.returned (.string (S (enc (A))))) w2) := fun w2 h2 => KrEnd.ok (hT1.trans (below_two h2 cb cb)) (hC1.below h2) hr rfl
    clear hr hC hD hC1 hD1 hT1 hB1 hx1 hκ hcb hm
    go_enter Tryz.func118, Tryz.ntmps118
    go_upto_region 1 with fail
    try rw [← hW1]
    clear hW1
    go_wp2_with fail
    refine hh.mono ?_
    rintro e w2 ⟨rfl, h2⟩
    have hE := HE.out w2 h2
    clear hh h2 HE
    simp only [if_true] at *
    generalize S (enc A) = sA at *
    go_wp2_with fail
    go_ret
    exact hE
set_option maxHeartbeats 4000000 in
theorem kda23 {w : World} {cb tb n : Nat} {nV : Value} {a0 : Int} {sm : Bool} {v : Value} (x : Tr.Nd) (i : Nat) (env : Env) (k0 : Nat × Ty) (hC : KC w cb tb n nV 0 a0 sm) (hD : KD w cb tb n v [k0]) (hκ : x.kind = 23) :
    Calls Tryz.prog 118 #[.pointer (some ⟨cb, 0, none⟩), .int .i64 (i : Int), .agg (ndA8 x), v] w (KrEnd w cb tb n nV a0 sm (ruleD sm env x i [k0])) := by
  obtain ⟨va, vc, rfl⟩ := hD.len_form
  obtain ⟨W1, hW1⟩ : ∃ W1, W1 = w.alloc (.cells (ndA8 x) 64) := ⟨_, rfl⟩
  have hB1 : Below w.heap.size w W1 := by rw [hW1]; exact (Below.refl _ _).alloc (Nat.le_refl _) _
  have hT1 : Two cb cb w W1 := below_two hB1 cb cb
  have hC1 := hC.below hB1
  have hD1 := hD.two hT1
  have hx1 : W1.heap[w.heap.size]? = some (.cells (ndA8 x) 64) := by rw [hW1]; exact heap_alloc_new _ _
  have hcb := hC.lt
  have q0 : W1.cell? ⟨w.heap.size, 0, none⟩ = some (.int .i8 x.kind) := (block_cells hx1).1 0
  have q4 : W1.cell? ⟨w.heap.size, 4, none⟩ = some (.string x.t) := (block_cells hx1).1 4
  rw [hκ] at q0
  have cty : W1.cell? ⟨cb, 1, none⟩ = some (.slice (some ⟨tb, 0, none⟩) n n) := hC1.ty
  obtain ⟨kb, ko, rfl, hkc, p0, n0, t0, z0⟩ := hD1.at (j := 0) (k := k0) rfl
  rw [Nat.add_zero] at p0
  have i0 : ((k0.1 : Nat) : Int) < (n : Int) := by omega
  have i0' : (0 : Int) ≤ ((k0.1 : Nat) : Int) := by omega
  cases hm : Ck.mt k0.2 108 with
  | none =>
    have hr : ruleD sm env x i [k0] = .error (24, k0.1) := by unfold ruleD; simp [hκ, useT, useS, hm]
    have hh := khead_no W1 cb tb n a0 sm k0.1 108 0 (by simp) k0.2 hC1 n0 t0 z0 hm
    rw [show ((((108 : UInt8).toNat : Nat) : Int)) = 108 from rfl] at hh
    have HE : Aside (∀ w2 s, KC w2 cb tb n nV 24 (k0.1 : Int) sm → Two cb cb W1 w2 → KrEnd w cb tb n nV a0 sm (ruleD sm env x i [k0]) (.returned (.string s)) w2) := fun w2 s h1 h2 => KrEnd.bad (q := (24, k0.1)) (hT1.trans h2) h1 hr s
    clear hr hC hD hC1 hD1 hT1 hB1 hx1 hκ hcb hm
    go_enter Tryz.func118, Tryz.ntmps118
    go_upto_region 1 with fail
    try rw [← hW1]
    clear hW1
    go_wp2_with fail
    refine hh.mono ?_
    rintro e w2 ⟨rfl, h1, h2⟩
    have hE := fun s => HE.out w2 s h1 h2
    clear hh h1 h2 HE
    have HSQ : Aside ((S (enc .tq)).size ≤ 64) := by show _ ≤ _; rw [S_size]; decide
    generalize S (enc .tq) = sq at *
    have hsq : sq.size ≤ 64 := HSQ.out
    go_wp2_with fail
    go_ret
    exact hE _
  | some q =>
    obtain ⟨A, B⟩ := q
    obtain ⟨zA, zB, -⟩ := mt_len hm z0
    have hr : ruleD sm env x i [k0] = .ok (.tl A) := by unfold ruleD; simp [hκ, useT, useS, hm, othersS, giv]
    have hh := khead_yes W1 cb tb n a0 sm k0.1 108 0 (by simp) (by decide) k0.2 A B hC1 n0 t0 z0 hm (by simp)
    rw [show (((0 : Nat) : Int)) = 0 from rfl] at hh
    rw [show ((((108 : UInt8).toNat : Nat) : Int)) = 108 from rfl] at hh
    have HE : Aside (∀ w2, Below W1.heap.size W1 w2 → KrEnd w cb tb n nV a0 sm (ruleD sm env x i [k0]) (.returned (.string (S (enc (.tl A))))) w2) := fun w2 h2 => KrEnd.ok (hT1.trans (below_two h2 cb cb)) (hC1.below h2) hr rfl
    have ha1 : (⟨#[108]⟩ : ByteArray) ++ S (enc A) = S (enc (.tl A)) := S_add8 [108] (enc A)
    have hSA : (S (enc A)).size ≤ 64 := by rw [S_size]; exact zA
    clear hr hC hD hC1 hD1 hT1 hB1 hx1 hκ hcb hm
    go_enter Tryz.func118, Tryz.ntmps118
    go_upto_region 1 with fail
    try rw [← hW1]
    clear hW1
    go_wp2_with fail
    refine hh.mono ?_
    rintro e w2 ⟨rfl, h2⟩
    have hE := HE.out w2 h2
    clear hh h2 HE
    simp only [if_true] at *
    generalize S (enc (.tl A)) = sB at *
    generalize S (enc A) = sA at *
    go_wp2_with fail
    go_ret
    exact hE
set_option maxHeartbeats 4000000 in
theorem kda24 {w : World} {cb tb n : Nat} {nV : Value} {a0 : Int} {sm : Bool} {v : Value} (x : Tr.Nd) (i : Nat) (env : Env) (k0 : Nat × Ty) (hC : KC w cb tb n nV 0 a0 sm) (hD : KD w cb tb n v [k0]) (hκ : x.kind = 24) :
    Calls Tryz.prog 118 #[.pointer (some ⟨cb, 0, none⟩), .int .i64 (i : Int), .agg (ndA8 x), v] w (KrEnd w cb tb n nV a0 sm (ruleD sm env x i [k0])) := by
  obtain ⟨va, vc, rfl⟩ := hD.len_form
  obtain ⟨W1, hW1⟩ : ∃ W1, W1 = w.alloc (.cells (ndA8 x) 64) := ⟨_, rfl⟩
  have hB1 : Below w.heap.size w W1 := by rw [hW1]; exact (Below.refl _ _).alloc (Nat.le_refl _) _
  have hT1 : Two cb cb w W1 := below_two hB1 cb cb
  have hC1 := hC.below hB1
  have hD1 := hD.two hT1
  have hx1 : W1.heap[w.heap.size]? = some (.cells (ndA8 x) 64) := by rw [hW1]; exact heap_alloc_new _ _
  have hcb := hC.lt
  have q0 : W1.cell? ⟨w.heap.size, 0, none⟩ = some (.int .i8 x.kind) := (block_cells hx1).1 0
  have q4 : W1.cell? ⟨w.heap.size, 4, none⟩ = some (.string x.t) := (block_cells hx1).1 4
  rw [hκ] at q0
  have cty : W1.cell? ⟨cb, 1, none⟩ = some (.slice (some ⟨tb, 0, none⟩) n n) := hC1.ty
  obtain ⟨kb, ko, rfl, hkc, p0, n0, t0, z0⟩ := hD1.at (j := 0) (k := k0) rfl
  rw [Nat.add_zero] at p0
  have i0 : ((k0.1 : Nat) : Int) < (n : Int) := by omega
  have i0' : (0 : Int) ≤ ((k0.1 : Nat) : Int) := by omega
  cases hm : Ck.mt k0.2 108 with
  | none =>
    have hr : ruleD sm env x i [k0] = .error (24, k0.1) := by unfold ruleD; simp [hκ, useT, useS, hm]
    have hh := khead_no W1 cb tb n a0 sm k0.1 108 0 (by simp) k0.2 hC1 n0 t0 z0 hm
    rw [show ((((108 : UInt8).toNat : Nat) : Int)) = 108 from rfl] at hh
    have HE : Aside (∀ w2 s, KC w2 cb tb n nV 24 (k0.1 : Int) sm → Two cb cb W1 w2 → KrEnd w cb tb n nV a0 sm (ruleD sm env x i [k0]) (.returned (.string s)) w2) := fun w2 s h1 h2 => KrEnd.bad (q := (24, k0.1)) (hT1.trans h2) h1 hr s
    clear hr hC hD hC1 hD1 hT1 hB1 hx1 hκ hcb hm
    go_enter Tryz.func118, Tryz.ntmps118
    go_upto_region 1 with fail
    try rw [← hW1]
    clear hW1
    go_wp2_with fail
    refine hh.mono ?_
    rintro e w2 ⟨rfl, h1, h2⟩
    have hE := fun s => HE.out w2 s h1 h2
    clear hh h1 h2 HE
    generalize S (enc .tq) = sq at *

    go_wp2_with fail
    go_ret
    exact hE _
  | some q =>
    obtain ⟨A, B⟩ := q
    obtain ⟨zA, zB, -⟩ := mt_len hm z0
    have hr : ruleD sm env x i [k0] = .ok (.tb) := by unfold ruleD; simp [hκ, useT, useS, hm, othersS, giv]
    have hh := khead_yes W1 cb tb n a0 sm k0.1 108 0 (by simp) (by decide) k0.2 A B hC1 n0 t0 z0 hm (by simp)
    rw [show (((0 : Nat) : Int)) = 0 from rfl] at hh
    rw [show ((((108 : UInt8).toNat : Nat) : Int)) = 108 from rfl] at hh
    have HE : Aside (∀ w2, Below W1.heap.size W1 w2 → KrEnd w cb tb n nV a0 sm (ruleD sm env x i [k0]) (.returned (.string ⟨#[98]⟩)) w2) := fun w2 h2 => KrEnd.ok (hT1.trans (below_two h2 cb cb)) (hC1.below h2) hr rfl
    clear hr hC hD hC1 hD1 hT1 hB1 hx1 hκ hcb hm
    go_enter Tryz.func118, Tryz.ntmps118
    go_upto_region 1 with fail
    try rw [← hW1]
    clear hW1
    go_wp2_with fail
    refine hh.mono ?_
    rintro e w2 ⟨rfl, h2⟩
    have hE := HE.out w2 h2
    clear hh h2 HE
    simp only [if_true] at *
    generalize S (enc A) = sA at *
    go_wp2_with fail
    go_ret
    exact hE
set_option maxHeartbeats 4000000 in
theorem kda27 {w : World} {cb tb n : Nat} {nV : Value} {a0 : Int} {sm : Bool} {v : Value} (x : Tr.Nd) (i : Nat) (env : Env) (k0 : Nat × Ty) (hC : KC w cb tb n nV 0 a0 sm) (hD : KD w cb tb n v [k0]) (hκ : x.kind = 27) :
    Calls Tryz.prog 118 #[.pointer (some ⟨cb, 0, none⟩), .int .i64 (i : Int), .agg (ndA8 x), v] w (KrEnd w cb tb n nV a0 sm (ruleD sm env x i [k0])) := by
  obtain ⟨va, vc, rfl⟩ := hD.len_form
  obtain ⟨W1, hW1⟩ : ∃ W1, W1 = w.alloc (.cells (ndA8 x) 64) := ⟨_, rfl⟩
  have hB1 : Below w.heap.size w W1 := by rw [hW1]; exact (Below.refl _ _).alloc (Nat.le_refl _) _
  have hT1 : Two cb cb w W1 := below_two hB1 cb cb
  have hC1 := hC.below hB1
  have hD1 := hD.two hT1
  have hx1 : W1.heap[w.heap.size]? = some (.cells (ndA8 x) 64) := by rw [hW1]; exact heap_alloc_new _ _
  have hcb := hC.lt
  have q0 : W1.cell? ⟨w.heap.size, 0, none⟩ = some (.int .i8 x.kind) := (block_cells hx1).1 0
  have q4 : W1.cell? ⟨w.heap.size, 4, none⟩ = some (.string x.t) := (block_cells hx1).1 4
  rw [hκ] at q0
  have cty : W1.cell? ⟨cb, 1, none⟩ = some (.slice (some ⟨tb, 0, none⟩) n n) := hC1.ty
  obtain ⟨kb, ko, rfl, hkc, p0, n0, t0, z0⟩ := hD1.at (j := 0) (k := k0) rfl
  rw [Nat.add_zero] at p0
  have i0 : ((k0.1 : Nat) : Int) < (n : Int) := by omega
  have i0' : (0 : Int) ≤ ((k0.1 : Nat) : Int) := by omega
  cases hm : Ck.mt k0.2 120 with
  | none =>
    have hr : ruleD sm env x i [k0] = .error (24, k0.1) := by unfold ruleD; simp [hκ, useT, useS, hm]
    have hh := khead_no W1 cb tb n a0 sm k0.1 120 0 (by simp) k0.2 hC1 n0 t0 z0 hm
    rw [show ((((120 : UInt8).toNat : Nat) : Int)) = 120 from rfl] at hh
    have HE : Aside (∀ w2 s, KC w2 cb tb n nV 24 (k0.1 : Int) sm → Two cb cb W1 w2 → KrEnd w cb tb n nV a0 sm (ruleD sm env x i [k0]) (.returned (.string s)) w2) := fun w2 s h1 h2 => KrEnd.bad (q := (24, k0.1)) (hT1.trans h2) h1 hr s
    clear hr hC hD hC1 hD1 hT1 hB1 hx1 hκ hcb hm
    go_enter Tryz.func118, Tryz.ntmps118
    go_upto_region 1 with fail
    try rw [← hW1]
    clear hW1
    go_wp2_with fail
    refine hh.mono ?_
    rintro e w2 ⟨rfl, h1, h2⟩
    have hE := fun s => HE.out w2 s h1 h2
    clear hh h1 h2 HE
    generalize S (enc .tq) = sq at *

    go_wp2_with fail
    go_ret
    exact hE _
  | some q =>
    obtain ⟨A, B⟩ := q
    obtain ⟨zA, zB, -⟩ := mt_len hm z0
    have hr : ruleD sm env x i [k0] = .ok (A) := by unfold ruleD; simp [hκ, useT, useS, hm, othersS, giv]
    have hh := khead_yes W1 cb tb n a0 sm k0.1 120 0 (by simp) (by decide) k0.2 A B hC1 n0 t0 z0 hm (by simp)
    rw [show (((0 : Nat) : Int)) = 0 from rfl] at hh
    rw [show ((((120 : UInt8).toNat : Nat) : Int)) = 120 from rfl] at hh
    have HE : Aside (∀ w2, Below W1.heap.size W1 w2 → KrEnd w cb tb n nV a0 sm (ruleD sm env x i [k0]) (.returned (.string (S (enc (A))))) w2) := fun w2 h2 => KrEnd.ok (hT1.trans (below_two h2 cb cb)) (hC1.below h2) hr rfl
    clear hr hC hD hC1 hD1 hT1 hB1 hx1 hκ hcb hm
    go_enter Tryz.func118, Tryz.ntmps118
    go_upto_region 1 with fail
    try rw [← hW1]
    clear hW1
    go_wp2_with fail
    refine hh.mono ?_
    rintro e w2 ⟨rfl, h2⟩
    have hE := HE.out w2 h2
    clear hh h2 HE
    simp only [if_true] at *
    generalize S (enc A) = sA at *
    go_wp2_with fail
    go_ret
    exact hE
end Go.Proofs.YthihnkgjkmaplaaGreatDoor
namespace Go.Proofs.YthihnkgjkmaplaaGreatDoor
open Go.RowKit Ck
open T3.Tp (Ty enc cns met)
open Tr (T Nd nm)
set_option maxRecDepth 100000
set_option linter.unusedSimpArgs false
set_option linter.unusedVariables false

set_option maxHeartbeats 4000000 in
theorem kda25 {w : World} {cb tb n : Nat} {nV : Value} {a0 : Int} {sm : Bool} {v : Value} (x : Tr.Nd) (i : Nat) (env : Env) (k0 k1 : Nat × Ty) (hC : KC w cb tb n nV 0 a0 sm) (hD : KD w cb tb n v [k0, k1]) (hκ : x.kind = 25) :
    Calls Tryz.prog 118 #[.pointer (some ⟨cb, 0, none⟩), .int .i64 (i : Int), .agg (ndA8 x), v] w (KrEnd w cb tb n nV a0 sm (ruleD sm env x i [k0, k1])) := by
  obtain ⟨va, vc, rfl⟩ := hD.len_form
  obtain ⟨W1, hW1⟩ : ∃ W1, W1 = w.alloc (.cells (ndA8 x) 64) := ⟨_, rfl⟩
  have hB1 : Below w.heap.size w W1 := by rw [hW1]; exact (Below.refl _ _).alloc (Nat.le_refl _) _
  have hT1 : Two cb cb w W1 := below_two hB1 cb cb
  have hC1 := hC.below hB1
  have hD1 := hD.two hT1
  have hx1 : W1.heap[w.heap.size]? = some (.cells (ndA8 x) 64) := by rw [hW1]; exact heap_alloc_new _ _
  have hcb := hC.lt
  have q0 : W1.cell? ⟨w.heap.size, 0, none⟩ = some (.int .i8 x.kind) := (block_cells hx1).1 0
  have q4 : W1.cell? ⟨w.heap.size, 4, none⟩ = some (.string x.t) := (block_cells hx1).1 4
  rw [hκ] at q0
  have cty : W1.cell? ⟨cb, 1, none⟩ = some (.slice (some ⟨tb, 0, none⟩) n n) := hC1.ty
  obtain ⟨kb, ko, rfl, hkc, p0, n0, t0, z0⟩ := hD1.at (j := 0) (k := k0) rfl
  rw [Nat.add_zero] at p0
  obtain ⟨kb1, ko1, e1, -, p1, n1, t1, z1⟩ := hD1.at (j := 1) (k := k1) rfl
  cases e1
  have i0 : ((k0.1 : Nat) : Int) < (n : Int) := by omega
  have i0' : (0 : Int) ≤ ((k0.1 : Nat) : Int) := by omega
  have i1 : ((k1.1 : Nat) : Int) < (n : Int) := by omega
  have i1' : (0 : Int) ≤ ((k1.1 : Nat) : Int) := by omega
  cases hm : Ck.mt k1.2 108 with
  | none =>
    have hr : ruleD sm env x i [k0, k1] = .error (24, k1.1) := by unfold ruleD; simp [hκ, useT, useS, hm]
    have hh := khead_no W1 cb tb n a0 sm k1.1 108 0 (by simp) k1.2 hC1 n1 t1 z1 hm
    rw [show ((((108 : UInt8).toNat : Nat) : Int)) = 108 from rfl] at hh
    have HE : Aside (∀ w2 w3 s, KC w2 cb tb n nV 24 (k1.1 : Int) sm → Two cb cb W1 w2 → w3 = w2.drew → KrEnd w cb tb n nV a0 sm (ruleD sm env x i [k0, k1]) (.returned (.string s)) w3) := fun w2 w3 s h1 h2 h3 => KrEnd.bad (q := (24, k1.1)) (hT1.trans ⟨by rw [h3]; exact h2.os, by rw [h3]; exact h2.tape, by rw [h3]; exact h2.output, by rw [h3]; exact h2.size, by rw [h3]; exact h2.block⟩) (by rw [h3]; exact h1.drew) hr s
    have HD : Aside (KD W1 cb tb n (.slice (some ⟨kb, ko, none⟩) 2 vc) [k0, k1]) := hD1
    clear hr hC hD hC1 hT1 hB1 hx1 hκ hcb hm hD1 t0 t1 cty
    go_enter Tryz.func118, Tryz.ntmps118
    go_upto_region 1 with fail
    try rw [← hW1]
    clear hW1
    go_wp2_with fail
    refine hh.mono ?_
    rintro e w2 ⟨rfl, h1, h2⟩
    clear p0 p1
    have hD2 := HD.out.two h2
    obtain ⟨kb', ko', e0, -, p0, -, t0, -⟩ := KD.at (ks := [k0, k1]) hD2 (j := 0) (k := k0) rfl
    cases e0
    try rw [Nat.add_zero] at p0
    have cty : w2.cell? ⟨cb, 1, none⟩ = some (.slice (some ⟨tb, 0, none⟩) n n) := h1.ty
    have hE := fun s => HE.out w2 w2.drew s h1 h2 rfl
    have HSQ : Aside ((S (enc .tq)).size ≤ 64) := by show _ ≤ _; rw [S_size]; decide
    have hf := fun s t => kfits_old w2.drew cb tb n 24 (k1.1 : Int) (by decide) sm s t 23 (k0.1 : Int) h1.drew
    clear hh HE HD hD2
    generalize S (enc .tq) = sq at *
    generalize S (enc k0.2) = sf at *
    have hsq := HSQ.out
    go_wp2_with fail

    go_still_tail 14, mix8
    go_wp2_with fail
    refine (hf _ _).mono ?_
    rintro e w4 ⟨rfl, hw4⟩
    subst hw4
    clear hf h1 h2
    go_wp2_with fail
    go_ret
    exact hE _
  | some q =>
    obtain ⟨A, B⟩ := q
    obtain ⟨zA, zB, -⟩ := mt_len hm z1
    have hr : ruleD sm env x i [k0, k1] = if cn sm k0.2 A then .ok (.tl A) else .error (23, k0.1) := by
      unfold ruleD
      cases hcn : cn sm k0.2 A <;> simp [hκ, useT, useS, hm, othersS, giv, hcn]
    have hh := khead_yes W1 cb tb n a0 sm k1.1 108 0 (by simp) (by decide) k1.2 A B hC1 n1 t1 z1 hm (by simp)
    rw [show (((0 : Nat) : Int)) = 0 from rfl, if_pos rfl] at hh
    rw [show ((((108 : UInt8).toNat : Nat) : Int)) = 108 from rfl] at hh
    have HF : Aside (∀ w2, Below W1.heap.size W1 w2 → Calls Tryz.prog 114 #[.pointer (some ⟨cb, 0, none⟩), .string (S (enc k0.2)), .string (S (enc A)), .int .i64 23, .int .i64 (k0.1 : Int)] w2.drew fun en w' => en = .returned (.tuple #[]) ∧ ∀ s, s = S (enc (.tl A)) → KrEnd w cb tb n nV a0 sm (ruleD sm env x i [k0, k1]) (.returned (.string s)) w') := fun w2 hB => by
      refine (kfits_any w2.drew cb tb n a0 sm k0.2 A z0 zA 23 (k0.1 : Int) (hC1.below hB).drew).mono ?_
      rintro e w3 ⟨rfl, h1, h2⟩
      refine ⟨rfl, fun s hs => ?_⟩
      have h3 : Two cb cb w w3 := hT1.trans ((below_two hB cb cb).trans h2.drewL)
      rw [hr]
      cases hcn : cn sm k0.2 A with
      | true => rw [hcn] at h1; exact KrEnd.ok h3 h1 rfl hs
      | false => rw [hcn] at h1; exact KrEnd.bad (q := (23, k0.1)) h3 h1 rfl s
    have HD : Aside (KD W1 cb tb n (.slice (some ⟨kb, ko, none⟩) 2 vc) [k0, k1] ∧ KC W1 cb tb n nV 0 a0 sm) := ⟨hD1, hC1⟩
    have ha1 : (⟨#[108]⟩ : ByteArray) ++ S (enc A) = S (enc (.tl A)) := S_add8 [108] (enc A)
    have hSA : (S (enc A)).size ≤ 64 := by rw [S_size]; exact zA
    clear hr hC hD hC1 hT1 hB1 hx1 hκ hcb hm hD1 t0 t1 cty
    go_enter Tryz.func118, Tryz.ntmps118
    go_upto_region 1 with fail
    try rw [← hW1]
    clear hW1
    go_wp2_with fail
    refine hh.mono ?_
    rintro e w2 ⟨rfl, h2⟩
    clear hh p0 p1
    have hD2 := HD.out.1.two (below_two h2 cb cb)
    obtain ⟨kb', ko', e0, -, p0, -, t0, -⟩ := KD.at (ks := [k0, k1]) hD2 (j := 0) (k := k0) rfl
    cases e0
    try rw [Nat.add_zero] at p0
    have cty : w2.cell? ⟨cb, 1, none⟩ = some (.slice (some ⟨tb, 0, none⟩) n n) := (HD.out.2.below h2).ty
    have hf := HF.out w2 h2
    clear HF HD hD2 h2
    generalize S (enc (.tl A)) = sL at *
    generalize S (enc A) = sA at *
    generalize S (enc k0.2) = sf at *
    go_wp2_with fail
    go_still_tail 14, mix8
    go_wp2_with fail
    refine hf.mono ?_
    rintro e w4 ⟨rfl, hE⟩
    clear hf
    go_wp2_with fail
    go_ret
    exact hE _ rfl
set_option maxHeartbeats 4000000 in
theorem kda28 {w : World} {cb tb n : Nat} {nV : Value} {a0 : Int} {sm : Bool} {v : Value} (x : Tr.Nd) (i : Nat) (env : Env) (k0 k1 : Nat × Ty) (hC : KC w cb tb n nV 0 a0 sm) (hD : KD w cb tb n v [k0, k1]) (hκ : x.kind = 28) :
    Calls Tryz.prog 118 #[.pointer (some ⟨cb, 0, none⟩), .int .i64 (i : Int), .agg (ndA8 x), v] w (KrEnd w cb tb n nV a0 sm (ruleD sm env x i [k0, k1])) := by
  obtain ⟨va, vc, rfl⟩ := hD.len_form
  obtain ⟨W1, hW1⟩ : ∃ W1, W1 = w.alloc (.cells (ndA8 x) 64) := ⟨_, rfl⟩
  have hB1 : Below w.heap.size w W1 := by rw [hW1]; exact (Below.refl _ _).alloc (Nat.le_refl _) _
  have hT1 : Two cb cb w W1 := below_two hB1 cb cb
  have hC1 := hC.below hB1
  have hD1 := hD.two hT1
  have hx1 : W1.heap[w.heap.size]? = some (.cells (ndA8 x) 64) := by rw [hW1]; exact heap_alloc_new _ _
  have hcb := hC.lt
  have q0 : W1.cell? ⟨w.heap.size, 0, none⟩ = some (.int .i8 x.kind) := (block_cells hx1).1 0
  have q4 : W1.cell? ⟨w.heap.size, 4, none⟩ = some (.string x.t) := (block_cells hx1).1 4
  rw [hκ] at q0
  have cty : W1.cell? ⟨cb, 1, none⟩ = some (.slice (some ⟨tb, 0, none⟩) n n) := hC1.ty
  obtain ⟨kb, ko, rfl, hkc, p0, n0, t0, z0⟩ := hD1.at (j := 0) (k := k0) rfl
  rw [Nat.add_zero] at p0
  obtain ⟨kb1, ko1, e1, -, p1, n1, t1, z1⟩ := hD1.at (j := 1) (k := k1) rfl
  cases e1
  have i0 : ((k0.1 : Nat) : Int) < (n : Int) := by omega
  have i0' : (0 : Int) ≤ ((k0.1 : Nat) : Int) := by omega
  have i1 : ((k1.1 : Nat) : Int) < (n : Int) := by omega
  have i1' : (0 : Int) ≤ ((k1.1 : Nat) : Int) := by omega
  cases hm : Ck.mt k0.2 120 with
  | none =>
    have hr : ruleD sm env x i [k0, k1] = .error (24, k0.1) := by unfold ruleD; simp [hκ, useT, useS, hm]
    have hh := khead_no W1 cb tb n a0 sm k0.1 120 0 (by simp) k0.2 hC1 n0 t0 z0 hm
    rw [show ((((120 : UInt8).toNat : Nat) : Int)) = 120 from rfl] at hh
    have HE : Aside (∀ w2 w3 s, KC w2 cb tb n nV 24 (k0.1 : Int) sm → Two cb cb W1 w2 → w3 = w2.drew → KrEnd w cb tb n nV a0 sm (ruleD sm env x i [k0, k1]) (.returned (.string s)) w3) := fun w2 w3 s h1 h2 h3 => KrEnd.bad (q := (24, k0.1)) (hT1.trans ⟨by rw [h3]; exact h2.os, by rw [h3]; exact h2.tape, by rw [h3]; exact h2.output, by rw [h3]; exact h2.size, by rw [h3]; exact h2.block⟩) (by rw [h3]; exact h1.drew) hr s
    have HD : Aside (KD W1 cb tb n (.slice (some ⟨kb, ko, none⟩) 2 vc) [k0, k1]) := hD1
    clear hr hC hD hC1 hT1 hB1 hx1 hκ hcb hm hD1 t0 t1 cty
    go_enter Tryz.func118, Tryz.ntmps118
    go_upto_region 1 with fail
    try rw [← hW1]
    clear hW1
    go_wp2_with fail
    refine hh.mono ?_
    rintro e w2 ⟨rfl, h1, h2⟩
    clear p0 p1
    have hD2 := HD.out.two h2
    obtain ⟨kb', ko', e0, -, p0, -, t0, -⟩ := KD.at (ks := [k0, k1]) hD2 (j := 1) (k := k1) rfl
    cases e0
    try rw [Nat.add_zero] at p0
    have cty : w2.cell? ⟨cb, 1, none⟩ = some (.slice (some ⟨tb, 0, none⟩) n n) := h1.ty
    have hE := fun s => HE.out w2 w2.drew s h1 h2 rfl
    have HSQ : Aside ((S (enc .tq)).size ≤ 64) := by show _ ≤ _; rw [S_size]; decide
    have hf := fun s t => kfits_old w2.drew cb tb n 24 (k0.1 : Int) (by decide) sm s t 23 (k1.1 : Int) h1.drew
    clear hh HE HD hD2
    generalize S (enc .tq) = sq at *
    generalize S (enc k1.2) = sf at *
    have hsq := HSQ.out
    go_wp2_with fail

    go_still_tail 14, mix8
    go_wp2_with fail
    refine (hf _ _).mono ?_
    rintro e w4 ⟨rfl, hw4⟩
    subst hw4
    clear hf h1 h2
    go_wp2_with fail
    go_ret
    exact hE _
  | some q =>
    obtain ⟨A, B⟩ := q
    obtain ⟨zA, zB, -⟩ := mt_len hm z0
    have hr : ruleD sm env x i [k0, k1] = if cn sm k1.2 A then .ok (A) else .error (23, k1.1) := by
      unfold ruleD
      cases hcn : cn sm k1.2 A <;> simp [hκ, useT, useS, hm, othersS, giv, hcn]
    have hh := khead_yes W1 cb tb n a0 sm k0.1 120 0 (by simp) (by decide) k0.2 A B hC1 n0 t0 z0 hm (by simp)
    rw [show (((0 : Nat) : Int)) = 0 from rfl, if_pos rfl] at hh
    rw [show ((((120 : UInt8).toNat : Nat) : Int)) = 120 from rfl] at hh
    have HF : Aside (∀ w2, Below W1.heap.size W1 w2 → Calls Tryz.prog 114 #[.pointer (some ⟨cb, 0, none⟩), .string (S (enc k1.2)), .string (S (enc A)), .int .i64 23, .int .i64 (k1.1 : Int)] w2.drew fun en w' => en = .returned (.tuple #[]) ∧ ∀ s, s = S (enc (A)) → KrEnd w cb tb n nV a0 sm (ruleD sm env x i [k0, k1]) (.returned (.string s)) w') := fun w2 hB => by
      refine (kfits_any w2.drew cb tb n a0 sm k1.2 A z1 zA 23 (k1.1 : Int) (hC1.below hB).drew).mono ?_
      rintro e w3 ⟨rfl, h1, h2⟩
      refine ⟨rfl, fun s hs => ?_⟩
      have h3 : Two cb cb w w3 := hT1.trans ((below_two hB cb cb).trans h2.drewL)
      rw [hr]
      cases hcn : cn sm k1.2 A with
      | true => rw [hcn] at h1; exact KrEnd.ok h3 h1 rfl hs
      | false => rw [hcn] at h1; exact KrEnd.bad (q := (23, k1.1)) h3 h1 rfl s
    have HD : Aside (KD W1 cb tb n (.slice (some ⟨kb, ko, none⟩) 2 vc) [k0, k1] ∧ KC W1 cb tb n nV 0 a0 sm) := ⟨hD1, hC1⟩
    clear hr hC hD hC1 hT1 hB1 hx1 hκ hcb hm hD1 t0 t1 cty
    go_enter Tryz.func118, Tryz.ntmps118
    go_upto_region 1 with fail
    try rw [← hW1]
    clear hW1
    go_wp2_with fail
    refine hh.mono ?_
    rintro e w2 ⟨rfl, h2⟩
    clear hh p0 p1
    have hD2 := HD.out.1.two (below_two h2 cb cb)
    obtain ⟨kb', ko', e0, -, p0, -, t0, -⟩ := KD.at (ks := [k0, k1]) hD2 (j := 1) (k := k1) rfl
    cases e0
    try rw [Nat.add_zero] at p0
    have cty : w2.cell? ⟨cb, 1, none⟩ = some (.slice (some ⟨tb, 0, none⟩) n n) := (HD.out.2.below h2).ty
    have hf := HF.out w2 h2
    clear HF HD hD2 h2
    generalize S (enc A) = sA at *
    generalize S (enc k1.2) = sf at *
    go_wp2_with fail
    go_still_tail 14, mix8
    go_wp2_with fail
    refine hf.mono ?_
    rintro e w4 ⟨rfl, hE⟩
    clear hf
    go_wp2_with fail
    go_ret
    exact hE _ rfl
end Go.Proofs.YthihnkgjkmaplaaGreatDoor
namespace Go.Proofs.YthihnkgjkmaplaaGreatDoor
open Go.RowKit Ck
open T3.Tp (Ty enc cns met)
open Tr (T Nd nm)
set_option maxRecDepth 100000
set_option linter.unusedSimpArgs false
set_option linter.unusedVariables false

set_option maxHeartbeats 4000000 in
theorem kda29 {w : World} {cb tb n : Nat} {nV : Value} {a0 : Int} {sm : Bool} {v : Value} (x : Tr.Nd) (i : Nat) (env : Env) (k0 : Nat × Ty) (hC : KC w cb tb n nV 0 a0 sm) (hD : KD w cb tb n v [k0]) (hκ : x.kind = 29) (hxt : x.t = S (enc (wr x.t))) (hz : (enc (wr x.t)).length ≤ 64) :
    Calls Tryz.prog 118 #[.pointer (some ⟨cb, 0, none⟩), .int .i64 (i : Int), .agg (ndA8 x), v] w (KrEnd w cb tb n nV a0 sm (ruleD sm env x i [k0])) := by
  obtain ⟨va, vc, rfl⟩ := hD.len_form
  obtain ⟨W1, hW1⟩ : ∃ W1, W1 = w.alloc (.cells (ndA8 x) 64) := ⟨_, rfl⟩
  have hB1 : Below w.heap.size w W1 := by rw [hW1]; exact (Below.refl _ _).alloc (Nat.le_refl _) _
  have hT1 : Two cb cb w W1 := below_two hB1 cb cb
  have hC1 := hC.below hB1
  have hD1 := hD.two hT1
  have hx1 : W1.heap[w.heap.size]? = some (.cells (ndA8 x) 64) := by rw [hW1]; exact heap_alloc_new _ _
  have hcb := hC.lt
  have q0 : W1.cell? ⟨w.heap.size, 0, none⟩ = some (.int .i8 x.kind) := (block_cells hx1).1 0
  have q4 : W1.cell? ⟨w.heap.size, 4, none⟩ = some (.string x.t) := (block_cells hx1).1 4
  rw [hκ] at q0
  have cty : W1.cell? ⟨cb, 1, none⟩ = some (.slice (some ⟨tb, 0, none⟩) n n) := hC1.ty
  obtain ⟨kb, ko, rfl, hkc, p0, n0, t0, z0⟩ := hD1.at (j := 0) (k := k0) rfl
  rw [Nat.add_zero] at p0
  have i0 : ((k0.1 : Nat) : Int) < (n : Int) := by omega
  have i0' : (0 : Int) ≤ ((k0.1 : Nat) : Int) := by omega
  have hr : ruleD sm env x i [k0] = if cn sm k0.2 (wr x.t) then .ok (wr x.t) else .error (23, i) := by unfold ruleD; simp [hκ]
  have HF : Aside (Calls Tryz.prog 114 #[.pointer (some ⟨cb, 0, none⟩), .string (S (enc k0.2)), .string x.t, .int .i64 23, .int .i64 (i : Int)] W1.drew fun en w' => en = .returned (.tuple #[]) ∧ w'.cell? ⟨w.heap.size, 4, none⟩ = some (.string x.t) ∧ KrEnd w cb tb n nV a0 sm (ruleD sm env x i [k0]) (.returned (.string x.t)) w') := by
    have h := kfits_any W1.drew cb tb n a0 sm k0.2 (wr x.t) z0 hz 23 (i : Int) hC1.drew
    rw [← hxt] at h
    refine h.mono ?_
    rintro e w3 ⟨rfl, h1, h2⟩
    have h3 : Two cb cb w w3 := hT1.trans h2.drewL
    refine ⟨rfl, ?_, ?_⟩
    · have hlt := (Array.getElem?_eq_some_iff.1 hx1).1
      exact (h2.cell (p := ⟨w.heap.size, 4, none⟩) hlt (by show w.heap.size ≠ cb; omega) (by show w.heap.size ≠ cb; omega)).trans q4
    · rw [hr]
      cases hcn : cn sm k0.2 (wr x.t) with
      | true => rw [hcn] at h1; exact KrEnd.ok h3 h1 rfl hxt
      | false => rw [hcn] at h1; exact KrEnd.bad (q := (23, i)) h3 h1 rfl _
  have hf := HF.out
  clear hr hC hD hC1 hD1 hT1 hB1 hx1 hκ hcb HF hxt hz
  generalize S (enc k0.2) = sf at *
  go_enter Tryz.func118, Tryz.ntmps118
  go_upto_region 1 with fail
  try rw [← hW1]
  clear hW1
  go_wp2_with fail
  go_still_tail 13, mix8
  go_wp2_with fail
  refine hf.mono ?_
  rintro e w4 ⟨rfl, q4', hE⟩
  clear hf
  go_wp2_with fail
  go_ret
  exact hE
end Go.Proofs.YthihnkgjkmaplaaGreatDoor
namespace Go.Proofs.YthihnkgjkmaplaaGreatDoor
open Go.RowKit Ck
open T3.Tp (Ty enc cns met)
open Tr (T Nd nm)
set_option maxRecDepth 100000
set_option linter.unusedSimpArgs false
set_option linter.unusedVariables false

set_option maxHeartbeats 4000000 in
theorem kda21 {w : World} {cb tb n : Nat} {nV : Value} {a0 : Int} {sm : Bool} {v : Value} (x : Tr.Nd) (i : Nat) (env : Env) (ks : List (Nat × Ty)) (hC : KC w cb tb n nV 0 a0 sm) (hD : KD w cb tb n v ks) (hκ : x.kind = 21) :
    Calls Tryz.prog 118 #[.pointer (some ⟨cb, 0, none⟩), .int .i64 (i : Int), .agg (ndA8 x), v] w (KrEnd w cb tb n nV a0 sm (ruleD sm env x i ks)) := by
  obtain ⟨va, vc, rfl⟩ := hD.len_form
  obtain ⟨W1, hW1⟩ : ∃ W1, W1 = w.alloc (.cells (ndA8 x) 64) := ⟨_, rfl⟩
  have hB1 : Below w.heap.size w W1 := by rw [hW1]; exact (Below.refl _ _).alloc (Nat.le_refl _) _
  have hT1 : Two cb cb w W1 := below_two hB1 cb cb
  have hC1 := hC.below hB1
  have hD1 := hD.two hT1
  have hx1 : W1.heap[w.heap.size]? = some (.cells (ndA8 x) 64) := by rw [hW1]; exact heap_alloc_new _ _
  have hcb := hC.lt
  have q0 : W1.cell? ⟨w.heap.size, 0, none⟩ = some (.int .i8 x.kind) := (block_cells hx1).1 0
  have q4 : W1.cell? ⟨w.heap.size, 4, none⟩ = some (.string x.t) := (block_cells hx1).1 4
  rw [hκ] at q0
  have cty : W1.cell? ⟨cb, 1, none⟩ = some (.slice (some ⟨tb, 0, none⟩) n n) := hC1.ty
  cases ks with
  | nil =>
    have hr : ruleD sm env x i [] = .ok (.tl .tq) := by unfold ruleD; simp [hκ]
    have HE : Aside (KrEnd w cb tb n nV a0 sm (ruleD sm env x i []) (.returned (.string ⟨#[108, 63]⟩)) W1) := KrEnd.ok hT1 hC1 hr rfl
    clear hr hC hD hC1 hD1 hT1 hB1 hx1 hκ hcb
    go_enter Tryz.func118, Tryz.ntmps118
    go_upto_region 1 with fail
    try rw [← hW1]
    clear hW1
    go_wp2_with fail
    go_ret
    exact HE.out
  | cons k0 kr =>
    have hz0 := (hD1.ty k0 (by simp)).2.2
    have hh := kmeets_any W1 cb tb n a0 sm _ k0 kr i hC1 hD1
    obtain ⟨M, hM⟩ : ∃ M, meetsS sm i k0.2 kr = M := ⟨_, rfl⟩
    have hr : ruleD sm env x i (k0 :: kr) = match M with | .error e => .error e | .ok t => .ok (.tl t) := by
      unfold ruleD
      simp only [hκ, hM]
      simp
      cases M <;> rfl
    have hzM : (enc (okT M)).length ≤ 64 := by
      cases M with
      | error e => show (enc .tq).length ≤ 64; decide
      | ok t => exact meetsS_len hz0 hM
    rw [hM] at hh
    have HE : Aside (∀ w2, KC w2 cb tb n nV (cdE M) (cdA a0 M) sm → Two cb cb W1 w2 → KrEnd w cb tb n nV a0 sm (ruleD sm env x i (k0 :: kr)) (.returned (.string (S (enc (.tl (okT M)))))) w2) := fun w2 h1 h2 => by
      rw [hr]
      cases M with
      | error q => exact KrEnd.bad (q := q) (hT1.trans h2) h1 rfl _
      | ok t => exact KrEnd.ok (hT1.trans h2) h1 rfl rfl
    have hl : decide (((k0 :: kr).length : Int) = 0) = false := by simp; omega
    have hl2 : (((k0 :: kr).length : Int) == 0) = false := beq_eq_false_iff_ne.2 (by simp; omega)
    have ha1 : (⟨#[108]⟩ : ByteArray) ++ S (enc (okT M)) = S (enc (.tl (okT M))) := S_add8 [108] (enc (okT M))
    have hS0 : (S (enc (okT M))).size ≤ 64 := by rw [S_size]; exact hzM
    clear hr hC hD hC1 hD1 hT1 hB1 hx1 hκ hcb hM hzM hz0
    generalize (k0 :: kr).length = m at *
    generalize S (enc (.tl (okT M))) = s2 at *
    generalize S (enc (okT M)) = s1 at *
    go_enter Tryz.func118, Tryz.ntmps118
    go_upto_region 1 with fail
    try rw [← hW1]
    clear hW1
    go_wp2_with fail
    refine hh.mono ?_
    rintro e w2 ⟨rfl, h1, h2⟩
    have hE := HE.out w2 h1 h2
    clear hh HE h1 h2
    go_wp2_with fail
    go_ret
    exact hE
end Go.Proofs.YthihnkgjkmaplaaGreatDoor
