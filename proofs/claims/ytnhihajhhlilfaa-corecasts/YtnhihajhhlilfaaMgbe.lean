/- The document's ahead. -/
import Derived.Test.YtnhihajhhlilfaaMgap
import Derived.Test.YtnhihajhhlilfaaMgbd
namespace Go.Proofs.Ytnhihajhhlilfaa
open Go.RowKit Co
open T3.Tp (Ty enc cns)
set_option maxRecDepth 100000
set_option linter.unusedSimpArgs false
set_option linter.unusedVariables false

/-- What the document asks of a node ahead of its kids: a function's own size is asked later. -/
def ahdD (nb : Nat) (x : Tr.Nd) (i : Nat) : Option (Int × Nat) :=
  if x.kind = 5 ∨ x.kind = 6 then (if goodB x.t && goodB x.u then none else some (20, i)) else ahd nb x i
def ahE : Option (Int × Nat) → Int × Nat
  | none => (0, 0)
  | some q => q
abbrev ndA (x : Tr.Nd) : Array Value := #[.int .i8 x.kind, .int .i64 x.kids, .int .i64 x.n, .string x.s, .string x.t, .string x.u, .int .i64 x.ln, .int .i64 x.co]
def DaEnd (w : World) (wb : Nat) (tv av : Value) (a : Int) (r : Option (Int × Nat)) (e : Ending) (w' : World) : Prop := e = .returned (.tuple #[]) ∧ w.grownBy w' (some wb) ∧ IsWk w' wb tv av a (ahE r).1 ((ahE r).2 : Int)
theorem dgood_any (s : ByteArray) (w : World) : Calls Try.prog 89 #[.string s] w fun e w' => e = .returned (.bool (goodB s)) ∧ w' = w := T3.good16_any s w

/-- All that a kind's walk needs. -/
structure Ah (w W1 : World) (wb : Nat) (tv av : Value) (a : Int) (x : Tr.Nd) : Prop where
  g : w.grownBy W1 (some wb)
  n : W1.heap[w.heap.size]? = some (.cells (ndA x) 44)
  k : IsWk W1 wb tv av a 0 0
theorem Ah.mk' {w : World} {wb : Nat} {tv av : Value} {a : Int} (x : Tr.Nd) (h : IsWk w wb tv av a 0 0) : Ah w (w.alloc (.cells (ndA x) 44)) wb tv av a x :=
  ⟨grownBy_alloc (grownBy_refl w _) _, heap_alloc_new _ _, (Below.heap_alloc _ _ _ h.lt).trans h⟩
theorem Ah.fail {w W1 : World} {wb : Nat} {tv av : Value} {a : Int} {x : Tr.Nd} (h : Ah w W1 wb tv av a x) {r : Option (Int × Nat)} {c : Int} {i : Nat} (hr : r = some (c, i)) : ∀ w', Fld W1 wb tv av a c (i : Int) w' → DaEnd w wb tv av a r (.returned (.tuple #[])) w' := fun w' hF => by
  rw [hr]; exact ⟨rfl, grownBy_trans h.g hF.1, hF.2⟩
theorem Ah.ok {w W1 : World} {wb : Nat} {tv av : Value} {a : Int} {x : Tr.Nd} (h : Ah w W1 wb tv av a x) {r : Option (Int × Nat)} (hr : r = none) : ∀ w', Below W1.heap.size W1 w' → DaEnd w wb tv av a r (.returned (.tuple #[])) w' := fun w' hB => by
  rw [hr]; exact ⟨rfl, grownBy_below h.g hB, h.k.below hB⟩

set_option maxHeartbeats 2000000 in
theorem dah2 {w : World} {wb : Nat} {tv av : Value} {a : Int} (x : Tr.Nd) (i nb : Nat) (h : IsWk w wb tv av a 0 0) (hκ : x.kind = 2) :
    Calls Try.prog 77 #[.pointer (some ⟨wb, 0, none⟩), .agg (ndA x), .int .i64 (i : Int), .int .i64 (nb : Int)] w (DaEnd w wb tv av a (ahdD nb x i)) := by
  have hA := Ah.mk' x h
  obtain ⟨W1, hW1⟩ : ∃ W1, W1 = w.alloc (.cells (ndA x) 44) := ⟨_, rfl⟩
  rw [← hW1] at hA
  have k0 : W1.cell? ⟨w.heap.size, 0, none⟩ = some (.int .i8 x.kind) := (block_cells hA.n).1 0
  have k2 : W1.cell? ⟨w.heap.size, 2, none⟩ = some (.int .i64 x.n) := (block_cells hA.n).1 2
  have k3 : W1.cell? ⟨w.heap.size, 3, none⟩ = some (.string x.s) := (block_cells hA.n).1 3
  have k4 : W1.cell? ⟨w.heap.size, 4, none⟩ = some (.string x.t) := (block_cells hA.n).1 4
  have k5 : W1.cell? ⟨w.heap.size, 5, none⟩ = some (.string x.u) := (block_cells hA.n).1 5
  have e2 : W1.cell? ⟨wb, 2, none⟩ = some (.int .i64 0) := (block_cells hA.k).1 2
  rw [hκ] at k0
  by_cases hz : 64 < x.s.size
  · have hz' : (64 : Int) < (x.s.size : Int) := by omega
    have hr : ahdD nb x i = some (10, i) := by
      unfold ahdD ahd
      simp [hκ, hz]
    have HF : Aside (∀ w', Fld W1 wb tv av a 10 (i : Int) w' → DaEnd w wb tv av a (ahdD nb x i) (.returned (.tuple #[])) w') := hA.fail hr
    have hfa := fail0_any hA.k 10 (i : Int)
    clear hA h hr hκ
    go_enter Try.func77, Try.ntmps77
    go_upto_region 1 with fail
    try rw [← hW1]
    clear hW1
    go_wp2_with fail
    refine hfa.mono ?_
    rintro e w2 ⟨rfl, hF⟩
    have hE := HF.out _ hF
    have m2 := (block_cells hF.2).1 2
    clear hfa hF HF
    go_wp2_with fail
    go_end0
    exact hE
  · have hz' : decide ((64 : Int) < (x.s.size : Int)) = false := by simp; omega
    have hr : ahdD nb x i = none := by
      unfold ahdD ahd
      simp [hκ, hz]
    have HO : Aside (∀ w', Below W1.heap.size W1 w' → DaEnd w wb tv av a (ahdD nb x i) (.returned (.tuple #[])) w') := hA.ok hr
    clear hA h hr hκ
    go_enter Try.func77, Try.ntmps77
    go_upto_region 1 with fail
    try rw [← hW1]
    clear hW1
    go_wp2_with fail
    go_end0
    exact HO.out _ (Below.refl _ _)

set_option maxHeartbeats 2000000 in
theorem dah3 {w : World} {wb : Nat} {tv av : Value} {a : Int} (x : Tr.Nd) (i nb : Nat) (h : IsWk w wb tv av a 0 0) (hκ : x.kind = 3) :
    Calls Try.prog 77 #[.pointer (some ⟨wb, 0, none⟩), .agg (ndA x), .int .i64 (i : Int), .int .i64 (nb : Int)] w (DaEnd w wb tv av a (ahdD nb x i)) := by
  have hA := Ah.mk' x h
  obtain ⟨W1, hW1⟩ : ∃ W1, W1 = w.alloc (.cells (ndA x) 44) := ⟨_, rfl⟩
  rw [← hW1] at hA
  have k0 : W1.cell? ⟨w.heap.size, 0, none⟩ = some (.int .i8 x.kind) := (block_cells hA.n).1 0
  have k2 : W1.cell? ⟨w.heap.size, 2, none⟩ = some (.int .i64 x.n) := (block_cells hA.n).1 2
  have k3 : W1.cell? ⟨w.heap.size, 3, none⟩ = some (.string x.s) := (block_cells hA.n).1 3
  have k4 : W1.cell? ⟨w.heap.size, 4, none⟩ = some (.string x.t) := (block_cells hA.n).1 4
  have k5 : W1.cell? ⟨w.heap.size, 5, none⟩ = some (.string x.u) := (block_cells hA.n).1 5
  have e2 : W1.cell? ⟨wb, 2, none⟩ = some (.int .i64 0) := (block_cells hA.k).1 2
  rw [hκ] at k0
  by_cases h0 : x.n = 0
  · have h0' : (x.n != 0) = false := by simpa using h0
    have hr : ahdD nb x i = none := by
      unfold ahdD ahd
      simp [hκ, h0]
    have HO : Aside (∀ w', Below W1.heap.size W1 w' → DaEnd w wb tv av a (ahdD nb x i) (.returned (.tuple #[])) w') := hA.ok hr
    clear hA h hr hκ
    go_enter Try.func77, Try.ntmps77
    go_upto_region 1 with fail
    try rw [← hW1]
    clear hW1
    go_wp2_with fail
    go_end0
    exact HO.out _ (Below.refl _ _)
  · have h0' : (x.n != 0) = true := by simpa using h0
    by_cases h1 : x.n = 1
    · have h1' : (x.n != 1) = false := by simpa using h1
      have hr : ahdD nb x i = none := by
        unfold ahdD ahd
        simp [hκ, h1]
      have HO : Aside (∀ w', Below W1.heap.size W1 w' → DaEnd w wb tv av a (ahdD nb x i) (.returned (.tuple #[])) w') := hA.ok hr
      clear hA h hr hκ
      go_enter Try.func77, Try.ntmps77
      go_upto_region 1 with fail
      try rw [← hW1]
      clear hW1
      go_wp2_with fail
      go_end0
      exact HO.out _ (Below.refl _ _)
    · have h1' : (x.n != 1) = true := by simpa using h1
      have hr : ahdD nb x i = some (13, i) := by
        unfold ahdD ahd
        simp [hκ, h0, h1]
      have HF : Aside (∀ w', Fld W1 wb tv av a 13 (i : Int) w' → DaEnd w wb tv av a (ahdD nb x i) (.returned (.tuple #[])) w') := hA.fail hr
      have hfa := fail0_any hA.k 13 (i : Int)
      clear hA h hr hκ
      go_enter Try.func77, Try.ntmps77
      go_upto_region 1 with fail
      try rw [← hW1]
      clear hW1
      go_wp2_with fail
      refine hfa.mono ?_
      rintro e w2 ⟨rfl, hF⟩
      have hE := HF.out _ hF
      have m2 := (block_cells hF.2).1 2
      clear hfa hF HF
      go_wp2_with fail
      go_end0
      exact hE

set_option maxHeartbeats 2000000 in
theorem dah4 {w : World} {wb : Nat} {tv av : Value} {a : Int} (x : Tr.Nd) (i nb : Nat) (h : IsWk w wb tv av a 0 0) (hκ : x.kind = 4) :
    Calls Try.prog 77 #[.pointer (some ⟨wb, 0, none⟩), .agg (ndA x), .int .i64 (i : Int), .int .i64 (nb : Int)] w (DaEnd w wb tv av a (ahdD nb x i)) := by
  have hA := Ah.mk' x h
  obtain ⟨W1, hW1⟩ : ∃ W1, W1 = w.alloc (.cells (ndA x) 44) := ⟨_, rfl⟩
  rw [← hW1] at hA
  have k0 : W1.cell? ⟨w.heap.size, 0, none⟩ = some (.int .i8 x.kind) := (block_cells hA.n).1 0
  have k2 : W1.cell? ⟨w.heap.size, 2, none⟩ = some (.int .i64 x.n) := (block_cells hA.n).1 2
  have k3 : W1.cell? ⟨w.heap.size, 3, none⟩ = some (.string x.s) := (block_cells hA.n).1 3
  have k4 : W1.cell? ⟨w.heap.size, 4, none⟩ = some (.string x.t) := (block_cells hA.n).1 4
  have k5 : W1.cell? ⟨w.heap.size, 5, none⟩ = some (.string x.u) := (block_cells hA.n).1 5
  have e2 : W1.cell? ⟨wb, 2, none⟩ = some (.int .i64 0) := (block_cells hA.k).1 2
  rw [hκ] at k0
  by_cases h0 : x.n < 0
  · have hr : ahdD nb x i = some (22, i) := by
      unfold ahdD ahd
      simp [hκ]; omega
    have HF : Aside (∀ w', Fld W1 wb tv av a 22 (i : Int) w' → DaEnd w wb tv av a (ahdD nb x i) (.returned (.tuple #[])) w') := hA.fail hr
    have hfa := fail0_any hA.k 22 (i : Int)
    clear hA h hr hκ
    go_enter Try.func77, Try.ntmps77
    go_upto_region 1 with fail
    try rw [← hW1]
    clear hW1
    go_wp2_with fail
    refine hfa.mono ?_
    rintro e w2 ⟨rfl, hF⟩
    have hE := HF.out _ hF
    have m2 := (block_cells hF.2).1 2
    clear hfa hF HF
    go_wp2_with fail
    go_end0
    exact hE
  · have h0' : decide (x.n < 0) = false := by simpa using h0
    by_cases h1 : (nb : Int) ≤ x.n
    · have hr : ahdD nb x i = some (22, i) := by
        unfold ahdD ahd
        simp [hκ]; omega
      have HF : Aside (∀ w', Fld W1 wb tv av a 22 (i : Int) w' → DaEnd w wb tv av a (ahdD nb x i) (.returned (.tuple #[])) w') := hA.fail hr
      have hfa := fail0_any hA.k 22 (i : Int)
      clear hA h hr hκ
      go_enter Try.func77, Try.ntmps77
      go_upto_region 1 with fail
      try rw [← hW1]
      clear hW1
      go_wp2_with fail
      refine hfa.mono ?_
      rintro e w2 ⟨rfl, hF⟩
      have hE := HF.out _ hF
      have m2 := (block_cells hF.2).1 2
      clear hfa hF HF
      go_wp2_with fail
      go_end0
      exact hE
    · have h1' : decide ((nb : Int) ≤ x.n) = false := by simpa using h1
      have hr : ahdD nb x i = none := by
        unfold ahdD ahd
        simp [hκ]; omega
      have HO : Aside (∀ w', Below W1.heap.size W1 w' → DaEnd w wb tv av a (ahdD nb x i) (.returned (.tuple #[])) w') := hA.ok hr
      clear hA h hr hκ
      go_enter Try.func77, Try.ntmps77
      go_upto_region 1 with fail
      try rw [← hW1]
      clear hW1
      go_wp2_with fail
      go_end0
      exact HO.out _ (Below.refl _ _)

set_option maxHeartbeats 2000000 in
theorem dah5 {w : World} {wb : Nat} {tv av : Value} {a : Int} (x : Tr.Nd) (i nb : Nat) (h : IsWk w wb tv av a 0 0) (hκ : x.kind = 5) :
    Calls Try.prog 77 #[.pointer (some ⟨wb, 0, none⟩), .agg (ndA x), .int .i64 (i : Int), .int .i64 (nb : Int)] w (DaEnd w wb tv av a (ahdD nb x i)) := by
  have hA := Ah.mk' x h
  obtain ⟨W1, hW1⟩ : ∃ W1, W1 = w.alloc (.cells (ndA x) 44) := ⟨_, rfl⟩
  rw [← hW1] at hA
  have k0 : W1.cell? ⟨w.heap.size, 0, none⟩ = some (.int .i8 x.kind) := (block_cells hA.n).1 0
  have k2 : W1.cell? ⟨w.heap.size, 2, none⟩ = some (.int .i64 x.n) := (block_cells hA.n).1 2
  have k3 : W1.cell? ⟨w.heap.size, 3, none⟩ = some (.string x.s) := (block_cells hA.n).1 3
  have k4 : W1.cell? ⟨w.heap.size, 4, none⟩ = some (.string x.t) := (block_cells hA.n).1 4
  have k5 : W1.cell? ⟨w.heap.size, 5, none⟩ = some (.string x.u) := (block_cells hA.n).1 5
  have e2 : W1.cell? ⟨wb, 2, none⟩ = some (.int .i64 0) := (block_cells hA.k).1 2
  rw [hκ] at k0
  have gt := dgood_any x.t
  have gu := dgood_any x.u
  cases ht : goodB x.t with
  | false =>
    rw [ht] at gt
    have hr : ahdD nb x i = some (20, i) := by
      unfold ahdD ahd
      simp [hκ, ht]
    have HF : Aside (∀ w', Fld W1 wb tv av a 20 (i : Int) w' → DaEnd w wb tv av a (ahdD nb x i) (.returned (.tuple #[])) w') := hA.fail hr
    have hfa := fail0_any hA.k 20 (i : Int)
    clear hA h hr hκ
    go_enter Try.func77, Try.ntmps77
    go_upto_region 1 with fail
    try rw [← hW1]
    clear hW1
    go_wp2_with fail
    refine (gt _).mono ?_
    rintro e w1 ⟨rfl, hw1⟩
    replace hw1 := hw1.symm
    subst hw1
    go_wp2_with fail
    refine hfa.mono ?_
    rintro e w2 ⟨rfl, hF⟩
    have hE := HF.out _ hF
    have m2 := (block_cells hF.2).1 2
    clear hfa hF HF
    go_wp2_with fail
    go_end0
    exact hE

  | true =>
    rw [ht] at gt
    cases hu : goodB x.u with
    | false =>
      rw [hu] at gu
      have hr : ahdD nb x i = some (20, i) := by
        unfold ahdD ahd
        simp [hκ, ht, hu]
      have HF : Aside (∀ w', Fld W1 wb tv av a 20 (i : Int) w' → DaEnd w wb tv av a (ahdD nb x i) (.returned (.tuple #[])) w') := hA.fail hr
      have hfa := fail0_any hA.k 20 (i : Int)
      clear hA h hr hκ
      go_enter Try.func77, Try.ntmps77
      go_upto_region 1 with fail
      try rw [← hW1]
      clear hW1
      go_wp2_with fail
      refine (gt _).mono ?_
      rintro e w1 ⟨rfl, hw1⟩
      replace hw1 := hw1.symm
      subst hw1
      go_wp2_with fail
      refine (gu _).mono ?_
      rintro e w1 ⟨rfl, hw1⟩
      replace hw1 := hw1.symm
      subst hw1
      go_wp2_with fail
      refine hfa.mono ?_
      rintro e w2 ⟨rfl, hF⟩
      have hE := HF.out _ hF
      have m2 := (block_cells hF.2).1 2
      clear hfa hF HF
      go_wp2_with fail
      go_end0
      exact hE

    | true =>
      rw [hu] at gu
      have hr : ahdD nb x i = none := by
        unfold ahdD ahd
        simp [hκ, ht, hu]
      have HO : Aside (∀ w', Below W1.heap.size W1 w' → DaEnd w wb tv av a (ahdD nb x i) (.returned (.tuple #[])) w') := hA.ok hr
      clear hA h hr hκ
      go_enter Try.func77, Try.ntmps77
      go_upto_region 1 with fail
      try rw [← hW1]
      clear hW1
      go_wp2_with fail
      refine (gt _).mono ?_
      rintro e w1 ⟨rfl, hw1⟩
      replace hw1 := hw1.symm
      subst hw1
      go_wp2_with fail
      refine (gu _).mono ?_
      rintro e w1 ⟨rfl, hw1⟩
      replace hw1 := hw1.symm
      subst hw1
      go_wp2_with fail
      go_end0
      exact HO.out _ (Below.refl _ _)

set_option maxHeartbeats 2000000 in
theorem dah6 {w : World} {wb : Nat} {tv av : Value} {a : Int} (x : Tr.Nd) (i nb : Nat) (h : IsWk w wb tv av a 0 0) (hκ : x.kind = 6) :
    Calls Try.prog 77 #[.pointer (some ⟨wb, 0, none⟩), .agg (ndA x), .int .i64 (i : Int), .int .i64 (nb : Int)] w (DaEnd w wb tv av a (ahdD nb x i)) := by
  have hA := Ah.mk' x h
  obtain ⟨W1, hW1⟩ : ∃ W1, W1 = w.alloc (.cells (ndA x) 44) := ⟨_, rfl⟩
  rw [← hW1] at hA
  have k0 : W1.cell? ⟨w.heap.size, 0, none⟩ = some (.int .i8 x.kind) := (block_cells hA.n).1 0
  have k2 : W1.cell? ⟨w.heap.size, 2, none⟩ = some (.int .i64 x.n) := (block_cells hA.n).1 2
  have k3 : W1.cell? ⟨w.heap.size, 3, none⟩ = some (.string x.s) := (block_cells hA.n).1 3
  have k4 : W1.cell? ⟨w.heap.size, 4, none⟩ = some (.string x.t) := (block_cells hA.n).1 4
  have k5 : W1.cell? ⟨w.heap.size, 5, none⟩ = some (.string x.u) := (block_cells hA.n).1 5
  have e2 : W1.cell? ⟨wb, 2, none⟩ = some (.int .i64 0) := (block_cells hA.k).1 2
  rw [hκ] at k0
  have gt := dgood_any x.t
  have gu := dgood_any x.u
  cases ht : goodB x.t with
  | false =>
    rw [ht] at gt
    have hr : ahdD nb x i = some (20, i) := by
      unfold ahdD ahd
      simp [hκ, ht]
    have HF : Aside (∀ w', Fld W1 wb tv av a 20 (i : Int) w' → DaEnd w wb tv av a (ahdD nb x i) (.returned (.tuple #[])) w') := hA.fail hr
    have hfa := fail0_any hA.k 20 (i : Int)
    clear hA h hr hκ
    go_enter Try.func77, Try.ntmps77
    go_upto_region 1 with fail
    try rw [← hW1]
    clear hW1
    go_wp2_with fail
    refine (gt _).mono ?_
    rintro e w1 ⟨rfl, hw1⟩
    replace hw1 := hw1.symm
    subst hw1
    go_wp2_with fail
    refine hfa.mono ?_
    rintro e w2 ⟨rfl, hF⟩
    have hE := HF.out _ hF
    have m2 := (block_cells hF.2).1 2
    clear hfa hF HF
    go_wp2_with fail
    go_end0
    exact hE

  | true =>
    rw [ht] at gt
    cases hu : goodB x.u with
    | false =>
      rw [hu] at gu
      have hr : ahdD nb x i = some (20, i) := by
        unfold ahdD ahd
        simp [hκ, ht, hu]
      have HF : Aside (∀ w', Fld W1 wb tv av a 20 (i : Int) w' → DaEnd w wb tv av a (ahdD nb x i) (.returned (.tuple #[])) w') := hA.fail hr
      have hfa := fail0_any hA.k 20 (i : Int)
      clear hA h hr hκ
      go_enter Try.func77, Try.ntmps77
      go_upto_region 1 with fail
      try rw [← hW1]
      clear hW1
      go_wp2_with fail
      refine (gt _).mono ?_
      rintro e w1 ⟨rfl, hw1⟩
      replace hw1 := hw1.symm
      subst hw1
      go_wp2_with fail
      refine (gu _).mono ?_
      rintro e w1 ⟨rfl, hw1⟩
      replace hw1 := hw1.symm
      subst hw1
      go_wp2_with fail
      refine hfa.mono ?_
      rintro e w2 ⟨rfl, hF⟩
      have hE := HF.out _ hF
      have m2 := (block_cells hF.2).1 2
      clear hfa hF HF
      go_wp2_with fail
      go_end0
      exact hE

    | true =>
      rw [hu] at gu
      have hr : ahdD nb x i = none := by
        unfold ahdD ahd
        simp [hκ, ht, hu]
      have HO : Aside (∀ w', Below W1.heap.size W1 w' → DaEnd w wb tv av a (ahdD nb x i) (.returned (.tuple #[])) w') := hA.ok hr
      clear hA h hr hκ
      go_enter Try.func77, Try.ntmps77
      go_upto_region 1 with fail
      try rw [← hW1]
      clear hW1
      go_wp2_with fail
      refine (gt _).mono ?_
      rintro e w1 ⟨rfl, hw1⟩
      replace hw1 := hw1.symm
      subst hw1
      go_wp2_with fail
      refine (gu _).mono ?_
      rintro e w1 ⟨rfl, hw1⟩
      replace hw1 := hw1.symm
      subst hw1
      go_wp2_with fail
      go_end0
      exact HO.out _ (Below.refl _ _)

set_option maxHeartbeats 2000000 in
theorem dah21 {w : World} {wb : Nat} {tv av : Value} {a : Int} (x : Tr.Nd) (i nb : Nat) (h : IsWk w wb tv av a 0 0) (hκ : x.kind = 21) :
    Calls Try.prog 77 #[.pointer (some ⟨wb, 0, none⟩), .agg (ndA x), .int .i64 (i : Int), .int .i64 (nb : Int)] w (DaEnd w wb tv av a (ahdD nb x i)) := by
  have hA := Ah.mk' x h
  obtain ⟨W1, hW1⟩ : ∃ W1, W1 = w.alloc (.cells (ndA x) 44) := ⟨_, rfl⟩
  rw [← hW1] at hA
  have k0 : W1.cell? ⟨w.heap.size, 0, none⟩ = some (.int .i8 x.kind) := (block_cells hA.n).1 0
  have k2 : W1.cell? ⟨w.heap.size, 2, none⟩ = some (.int .i64 x.n) := (block_cells hA.n).1 2
  have k3 : W1.cell? ⟨w.heap.size, 3, none⟩ = some (.string x.s) := (block_cells hA.n).1 3
  have k4 : W1.cell? ⟨w.heap.size, 4, none⟩ = some (.string x.t) := (block_cells hA.n).1 4
  have k5 : W1.cell? ⟨w.heap.size, 5, none⟩ = some (.string x.u) := (block_cells hA.n).1 5
  have e2 : W1.cell? ⟨wb, 2, none⟩ = some (.int .i64 0) := (block_cells hA.k).1 2
  rw [hκ] at k0
  have gt := dgood_any x.t
  have gu := dgood_any x.u
  cases ht : goodB x.t with
  | false =>
    rw [ht] at gt
    have hr : ahdD nb x i = some (20, i) := by
      unfold ahdD ahd
      simp [hκ, ht]
    have HF : Aside (∀ w', Fld W1 wb tv av a 20 (i : Int) w' → DaEnd w wb tv av a (ahdD nb x i) (.returned (.tuple #[])) w') := hA.fail hr
    have hfa := fail0_any hA.k 20 (i : Int)
    clear hA h hr hκ
    go_enter Try.func77, Try.ntmps77
    go_upto_region 1 with fail
    try rw [← hW1]
    clear hW1
    go_wp2_with fail
    refine (gt _).mono ?_
    rintro e w1 ⟨rfl, hw1⟩
    replace hw1 := hw1.symm
    subst hw1
    go_wp2_with fail
    refine hfa.mono ?_
    rintro e w2 ⟨rfl, hF⟩
    have hE := HF.out _ hF
    have m2 := (block_cells hF.2).1 2
    clear hfa hF HF
    go_wp2_with fail
    go_end0
    exact hE

  | true =>
    rw [ht] at gt
    have hr : ahdD nb x i = none := by
      unfold ahdD ahd
      simp [hκ, ht]
    have HO : Aside (∀ w', Below W1.heap.size W1 w' → DaEnd w wb tv av a (ahdD nb x i) (.returned (.tuple #[])) w') := hA.ok hr
    clear hA h hr hκ
    go_enter Try.func77, Try.ntmps77
    go_upto_region 1 with fail
    try rw [← hW1]
    clear hW1
    go_wp2_with fail
    refine (gt _).mono ?_
    rintro e w1 ⟨rfl, hw1⟩
    replace hw1 := hw1.symm
    subst hw1
    go_wp2_with fail
    go_end0
    exact HO.out _ (Below.refl _ _)

set_option maxHeartbeats 2000000 in
theorem dah0 {w : World} {wb : Nat} {tv av : Value} {a : Int} (x : Tr.Nd) (i nb : Nat) (h : IsWk w wb tv av a 0 0) (hκ : x.kind ≠ 2 ∧ x.kind ≠ 3 ∧ x.kind ≠ 4 ∧ x.kind ≠ 5 ∧ x.kind ≠ 6 ∧ x.kind ≠ 30 ∧ x.kind ≠ 21) :
    Calls Try.prog 77 #[.pointer (some ⟨wb, 0, none⟩), .agg (ndA x), .int .i64 (i : Int), .int .i64 (nb : Int)] w (DaEnd w wb tv av a (ahdD nb x i)) := by
  have hA := Ah.mk' x h
  obtain ⟨W1, hW1⟩ : ∃ W1, W1 = w.alloc (.cells (ndA x) 44) := ⟨_, rfl⟩
  rw [← hW1] at hA
  have k0 : W1.cell? ⟨w.heap.size, 0, none⟩ = some (.int .i8 x.kind) := (block_cells hA.n).1 0
  have k2 : W1.cell? ⟨w.heap.size, 2, none⟩ = some (.int .i64 x.n) := (block_cells hA.n).1 2
  have k3 : W1.cell? ⟨w.heap.size, 3, none⟩ = some (.string x.s) := (block_cells hA.n).1 3
  have k4 : W1.cell? ⟨w.heap.size, 4, none⟩ = some (.string x.t) := (block_cells hA.n).1 4
  have k5 : W1.cell? ⟨w.heap.size, 5, none⟩ = some (.string x.u) := (block_cells hA.n).1 5
  have e2 : W1.cell? ⟨wb, 2, none⟩ = some (.int .i64 0) := (block_cells hA.k).1 2
  have b2 : (x.kind == 2) = false := by simpa using hκ.1
  have b3 : (x.kind == 3) = false := by simpa using hκ.2.1
  have b4 : (x.kind == 4) = false := by simpa using hκ.2.2.1
  have b5 : (x.kind == 5) = false := by simpa using hκ.2.2.2.1
  have b6 : (x.kind == 6) = false := by simpa using hκ.2.2.2.2.1
  have b30 : (x.kind == 30) = false := by simpa using hκ.2.2.2.2.2.1
  have b21 : (x.kind == 21) = false := by simpa using hκ.2.2.2.2.2.2
  have b30' : (x.kind != 30) = true := by simpa using hκ.2.2.2.2.2.1
  have hr : ahdD nb x i = none := by
    unfold ahdD ahd
    simp [hκ]
  have HO : Aside (∀ w', Below W1.heap.size W1 w' → DaEnd w wb tv av a (ahdD nb x i) (.returned (.tuple #[])) w') := hA.ok hr
  clear hA h hr hκ
  go_enter Try.func77, Try.ntmps77
  go_upto_region 1 with fail
  try rw [← hW1]
  clear hW1
  go_wp2_with fail
  go_end0
  exact HO.out _ (Below.refl _ _)

end Go.Proofs.Ytnhihajhhlilfaa
