/- The walk of ParseBounds. -/
import Derived.Test.YtohjfikjbeafiaaGreatDoorIal
namespace Go.Proofs.YtohjfikjbeafiaaGreatDoor
open Go.RowKit Ps
set_option maxRecDepth 100000
set_option linter.unusedSimpArgs false

/-- A row of the table: a source, whether it is an expr, the error and its place. -/
structure Cs where
  l : List UInt8
  x : Bool
  c : Int
  a : Int
  b : Int
def Cs.cells (r : Cs) : List Value := [.string (S r.l), .bool r.x, .int .i64 r.c, .int .i64 r.a, .int .i64 r.b]
def Cs.Told (r : Cs) : Prop := r.l.length ≤ 60000 ∧ (r.x = true → ToldE r.l r.c r.a r.b) ∧ (r.x = false → ToldM r.l r.c r.a r.b)
def crow (L : List Cs) : List Value := L.flatMap Cs.cells
theorem crow_get : ∀ (L : List Cs) (i : Nat) (r : Cs) (j : Nat), L[i]? = some r → j < 5 → (crow L)[5 * i + j]? = r.cells[j]?
  | x :: L, 0, r, j, h, hj => by
    simp at h; subst h
    show (x.cells ++ crow L)[5 * 0 + j]? = _
    rw [Nat.mul_zero, Nat.zero_add, List.getElem?_append_left (by simp [Cs.cells]; omega)]
  | x :: L, i + 1, r, j, h, hj => by
    simp at h
    show (x.cells ++ crow L)[5 * (i + 1) + j]? = _
    rw [List.getElem?_append_right (by simp [Cs.cells]; omega), ← crow_get L i r j h hj]
    congr 1
    simp [Cs.cells]; omega
theorem undS : Tryz.prog.underlying 9 = some .string := by kernel_rfl
theorem app2 (a y b : List UInt8) : (⟨a.toArray⟩ : ByteArray) ++ S y ++ (⟨b.toArray⟩ : ByteArray) = S (a ++ y ++ b) := by
  rw [← S_app, ← S_app]; rfl

set_option maxHeartbeats 16000000 in
theorem parseBounds_walk (W : World) (hv : T1.Vars W) (h2 : 6 ≤ W.heap.size) (y0 y1 y2 y3 y4 y5 y6 y7 y8 x1 x2 x3 x4 x5 x6 x9 x10 x11 x12 : List UInt8) (t0 : ∀ w, Calls Tryz.prog 30 #[.string (⟨#[44, 48]⟩ : ByteArray), .int .i64 4094] w fun e w' => e = .returned (.string (S y0)) ∧ w' = w) (t1 : ∀ w, Calls Tryz.prog 30 #[.string (⟨#[45]⟩ : ByteArray), .int .i64 63] w fun e w' => e = .returned (.string (S y1)) ∧ w' = w) (t2 : ∀ w, Calls Tryz.prog 30 #[.string (⟨#[45]⟩ : ByteArray), .int .i64 64] w fun e w' => e = .returned (.string (S y2)) ∧ w' = w) (t3 : ∀ w, Calls Tryz.prog 30 #[.string (⟨#[98, 111, 120, 32]⟩ : ByteArray), .int .i64 63] w fun e w' => e = .returned (.string (S y3)) ∧ w' = w) (t4 : ∀ w, Calls Tryz.prog 30 #[.string (⟨#[98, 111, 120, 32]⟩ : ByteArray), .int .i64 64] w fun e w' => e = .returned (.string (S y4)) ∧ w' = w) (t5 : ∀ w, Calls Tryz.prog 30 #[.string (⟨#[109, 111, 100, 117, 108, 101, 32, 109, 32, 123, 125]⟩ : ByteArray), .int .i64 8] w fun e w' => e = .returned (.string (S y5)) ∧ w' = w) (t6 : ∀ w, Calls Tryz.prog 30 #[.string (⟨#[109, 111, 100, 117, 108, 101, 32, 109, 32, 123, 125]⟩ : ByteArray), .int .i64 9] w fun e w' => e = .returned (.string (S y6)) ∧ w' = w) (t7 : ∀ w, Calls Tryz.prog 30 #[.string (⟨#[105, 109, 112, 111, 114, 116, 32, 97, 46, 98, 59]⟩ : ByteArray), .int .i64 63] w fun e w' => e = .returned (.string (S y7)) ∧ w' = w) (t8 : ∀ w, Calls Tryz.prog 30 #[.string (⟨#[105, 109, 112, 111, 114, 116, 32, 97, 46, 98, 59]⟩ : ByteArray), .int .i64 64] w fun e w' => e = .returned (.string (S y8)) ∧ w' = w) (a3 : (⟨#[91, 48]⟩ : ByteArray) ++ S y0 ++ (⟨#[93]⟩ : ByteArray) = S x3) (a1 : S y1 ++ (⟨#[49]⟩ : ByteArray) = S x1) (a2 : (⟨#[32]⟩ : ByteArray) ++ S y2 ++ (⟨#[49]⟩ : ByteArray) = S x2) (a4 : (⟨#[49, 32, 61, 61, 32]⟩ : ByteArray) ++ S x3 = S x4) (a5 : (⟨#[40, 120, 32, 58, 32]⟩ : ByteArray) ++ S y3 ++ (⟨#[105, 110, 116, 41]⟩ : ByteArray) = S x5) (a6 : (⟨#[40, 120, 32, 58, 32]⟩ : ByteArray) ++ S y4 ++ (⟨#[105, 110, 116, 41]⟩ : ByteArray) = S x6) (a9 : (⟨#[109, 111, 100, 117, 108, 101, 32, 109, 32, 123]⟩ : ByteArray) ++ S y7 ++ (⟨#[108, 101, 116, 32, 120, 61, 49, 59, 125]⟩ : ByteArray) = S x9) (a10 : (⟨#[109, 111, 100, 117, 108, 101, 32, 109, 32, 123]⟩ : ByteArray) ++ S y8 ++ (⟨#[108, 101, 116, 32, 120, 61, 49, 59, 125]⟩ : ByteArray) = S x10) (a11 : (⟨#[109, 111, 100, 117, 108, 101, 32, 109, 32, 123, 108, 101, 116, 32, 120, 61]⟩ : ByteArray) ++ S x3 ++ (⟨#[59, 108, 101, 116, 32, 121, 61, 49, 59, 125]⟩ : ByteArray) = S x11) (a12 : (⟨#[109, 111, 100, 117, 108, 101, 32, 109, 32, 123, 108, 101, 116, 32, 120, 61]⟩ : ByteArray) ++ S y2 ++ (⟨#[49, 59, 125]⟩ : ByteArray) = S x12) (l0 : y0.length = 8188) (l1 : y1.length ≤ 60000) (l2 : y2.length ≤ 60000) (l3 : y3.length ≤ 60000) (l4 : y4.length ≤ 60000) (l5 : y5.length ≤ 60000) (l6 : y6.length ≤ 60000) (l7 : y7.length ≤ 60000) (l8 : y8.length ≤ 60000) (hT : ∀ r ∈ ([⟨x1, true, 0, 0, 0⟩, ⟨x2, true, 16, 1, 2⟩, ⟨x3, true, 0, 0, 0⟩, ⟨x4, true, 17, 1, 1⟩, ⟨x5, true, 0, 0, 0⟩, ⟨x6, true, 21, 1, 6⟩, ⟨y5, false, 0, 0, 0⟩, ⟨y6, false, 17, 1, 96⟩, ⟨x9, false, 0, 0, 0⟩, ⟨x10, false, 17, 1, 719⟩, ⟨x11, false, 17, 1, 8213⟩, ⟨x12, false, 16, 1, 15⟩] : List Cs), r.Told) :
    Calls Tryz.prog 8 #[] W fun e w' => e = .returned (.bool true) ∧ Below W.heap.size W w' := by
  obtain ⟨T, hTe⟩ : ∃ T : List Cs, T = [⟨x1, true, 0, 0, 0⟩, ⟨x2, true, 16, 1, 2⟩, ⟨x3, true, 0, 0, 0⟩, ⟨x4, true, 17, 1, 1⟩, ⟨x5, true, 0, 0, 0⟩, ⟨x6, true, 21, 1, 6⟩, ⟨y5, false, 0, 0, 0⟩, ⟨y6, false, 17, 1, 96⟩, ⟨x9, false, 0, 0, 0⟩, ⟨x10, false, 17, 1, 719⟩, ⟨x11, false, 17, 1, 8213⟩, ⟨x12, false, 16, 1, 15⟩] := ⟨_, rfl⟩
  rw [← hTe] at hT
  have hTl : T.length = 12 := by rw [hTe]; rfl
  have HT : Aside (∀ (k : Nat) (r : Cs), T[k]? = some r → r.Told) := fun k r h => hT r (List.mem_of_getElem? h)
  have HTE : Aside _ := hTe
  have A3 : Aside ((⟨#[91, 48]⟩ : ByteArray) ++ S y0 ++ (⟨#[93]⟩ : ByteArray) = S x3) := a3
  have A1 : Aside (S y1 ++ (⟨#[49]⟩ : ByteArray) = S x1) := a1
  have A2 : Aside ((⟨#[32]⟩ : ByteArray) ++ S y2 ++ (⟨#[49]⟩ : ByteArray) = S x2) := a2
  have A4 : Aside ((⟨#[49, 32, 61, 61, 32]⟩ : ByteArray) ++ S x3 = S x4) := a4
  have A5 : Aside ((⟨#[40, 120, 32, 58, 32]⟩ : ByteArray) ++ S y3 ++ (⟨#[105, 110, 116, 41]⟩ : ByteArray) = S x5) := a5
  have A6 : Aside ((⟨#[40, 120, 32, 58, 32]⟩ : ByteArray) ++ S y4 ++ (⟨#[105, 110, 116, 41]⟩ : ByteArray) = S x6) := a6
  have A9 : Aside ((⟨#[109, 111, 100, 117, 108, 101, 32, 109, 32, 123]⟩ : ByteArray) ++ S y7 ++ (⟨#[108, 101, 116, 32, 120, 61, 49, 59, 125]⟩ : ByteArray) = S x9) := a9
  have A10 : Aside ((⟨#[109, 111, 100, 117, 108, 101, 32, 109, 32, 123]⟩ : ByteArray) ++ S y8 ++ (⟨#[108, 101, 116, 32, 120, 61, 49, 59, 125]⟩ : ByteArray) = S x10) := a10
  have A11 : Aside ((⟨#[109, 111, 100, 117, 108, 101, 32, 109, 32, 123, 108, 101, 116, 32, 120, 61]⟩ : ByteArray) ++ S x3 ++ (⟨#[59, 108, 101, 116, 32, 121, 61, 49, 59, 125]⟩ : ByteArray) = S x11) := a11
  have A12 : Aside ((⟨#[109, 111, 100, 117, 108, 101, 32, 109, 32, 123, 108, 101, 116, 32, 120, 61]⟩ : ByteArray) ++ S y2 ++ (⟨#[49, 59, 125]⟩ : ByteArray) = S x12) := a12
  have HV : Aside (∀ w, Below W.heap.size W w → T1.Vars w ∧ 6 ≤ w.heap.size) := fun w hB => ⟨hv.below hB, Nat.le_trans h2 hB.size⟩
  have z0 : (S y0).size = 8188 := by rw [S_size, l0]
  have z1 : (S y1).size ≤ 60000 := by rw [S_size]; exact l1
  have z2 : (S y2).size ≤ 60000 := by rw [S_size]; exact l2
  have z3 : (S y3).size ≤ 60000 := by rw [S_size]; exact l3
  have z4 : (S y4).size ≤ 60000 := by rw [S_size]; exact l4
  have z5 : (S y5).size ≤ 60000 := by rw [S_size]; exact l5
  have z6 : (S y6).size ≤ 60000 := by rw [S_size]; exact l6
  have z7 : (S y7).size ≤ 60000 := by rw [S_size]; exact l7
  have z8 : (S y8).size ≤ 60000 := by rw [S_size]; exact l8
  clear hT hTe hv a3 a1 a2 a4 a5 a6 a9 a10 a11 a12 l0 l1 l2 l3 l4 l5 l6 l7 l8
  go_enter Tryz.func8, Tryz.ntmps8
  go_wp2_with fail
  refine (t0 _).mono ?_
  rintro _ v0 ⟨rfl, hw0⟩
  replace hw0 := hw0.symm
  subst hw0
  go_wp2_with fail
  refine (t1 _).mono ?_
  rintro _ v1 ⟨rfl, hw1⟩
  replace hw1 := hw1.symm
  subst hw1
  go_wp2_with fail
  refine (t2 _).mono ?_
  rintro _ v2 ⟨rfl, hw2⟩
  replace hw2 := hw2.symm
  subst hw2
  go_wp2_with fail
  refine (t3 _).mono ?_
  rintro _ v3 ⟨rfl, hw3⟩
  replace hw3 := hw3.symm
  subst hw3
  go_wp2_with fail
  refine (t4 _).mono ?_
  rintro _ v4 ⟨rfl, hw4⟩
  replace hw4 := hw4.symm
  subst hw4
  go_wp2_with fail
  refine (t5 _).mono ?_
  rintro _ v5 ⟨rfl, hw5⟩
  replace hw5 := hw5.symm
  subst hw5
  go_wp2_with fail
  refine (t6 _).mono ?_
  rintro _ v6 ⟨rfl, hw6⟩
  replace hw6 := hw6.symm
  subst hw6
  go_wp2_with fail
  refine (t7 _).mono ?_
  rintro _ v7 ⟨rfl, hw7⟩
  replace hw7 := hw7.symm
  subst hw7
  go_wp2_with fail
  refine (t8 _).mono ?_
  rintro _ v8 ⟨rfl, hw8⟩
  replace hw8 := hw8.symm
  subst hw8
  go_wp2_with fail
  refine (t2 _).mono ?_
  rintro _ v9 ⟨rfl, hw9⟩
  replace hw9 := hw9.symm
  subst hw9
  go_upto_region 3 with fail
  rw [A3.out, A1.out, A2.out, A4.out, A5.out, A6.out, A9.out, A10.out, A11.out, A12.out]
  obtain ⟨w0, hw0⟩ : ∃ w0, w0 = W.alloc (.cells #[.string (S x1), .bool true, .int .i64 0, .int .i64 0, .int .i64 0, .string (S x2), .bool true, .int .i64 16, .int .i64 1, .int .i64 2, .string (S x3), .bool true, .int .i64 0, .int .i64 0, .int .i64 0, .string (S x4), .bool true, .int .i64 17, .int .i64 1, .int .i64 1, .string (S x5), .bool true, .int .i64 0, .int .i64 0, .int .i64 0, .string (S x6), .bool true, .int .i64 21, .int .i64 1, .int .i64 6, .string (S y5), .bool false, .int .i64 0, .int .i64 0, .int .i64 0, .string (S y6), .bool false, .int .i64 17, .int .i64 1, .int .i64 96, .string (S x9), .bool false, .int .i64 0, .int .i64 0, .int .i64 0, .string (S x10), .bool false, .int .i64 17, .int .i64 1, .int .i64 719, .string (S x11), .bool false, .int .i64 17, .int .i64 1, .int .i64 8213, .string (S x12), .bool false, .int .i64 16, .int .i64 1, .int .i64 15] 82) := ⟨_, rfl⟩
  rw [← hw0]
  have K0 : Aside (w0.heap[W.heap.size]? = some (.cells (crow T).toArray 82)) := by rw [hw0, HTE.out]; exact heap_alloc_new _ _
  have hB0 : Below W.heap.size W w0 := by rw [hw0]; exact (Below.refl _ _).alloc (Nat.le_refl _) _
  have hz0 : w0.heap.size = W.heap.size + 1 := by rw [hw0]; simp
  clear hw0 HTE t0 t1 t2 t3 t4 t5 t6 t7 t8 z0 z1 z2 z3 z4 z5 z6 z7 z8 A3 A1 A2 A4 A5 A6 A9 A10 A11 A12
  go_wp2_with fail
  go_loopg [3] 12 (fun g t wr => ∃ k : Nat, k + g = 12 ∧ t = .int .i64 (k : Int) ∧ Below w0.heap.size w0 wr)
  case atStart => exact ⟨0, by omega, rfl, Below.refl _ _⟩
  case round =>
    obtain ⟨k, hkg, rfl, hB⟩ := hrel
    have hBw : Below W.heap.size W wr := hB0.trans (hB.mono (by omega))
    by_cases hk : k < 12
    · have hk' : (k : Int) < 12 := by omega
      obtain ⟨r, hr⟩ : ∃ r, T[k]? = some r := ⟨_, List.getElem?_eq_getElem (by omega)⟩
      obtain ⟨hr1, hr2, hr3⟩ := HT.out k r hr
      have hcl : ∀ j, j < 5 → wr.cell? ⟨W.heap.size, k * 5 + j, none⟩ = r.cells[j]? := fun j hj => by
        rw [(block_cells ((hB.block _ (by omega)).trans K0.out)).1, List.getElem?_toArray, Nat.mul_comm]; exact crow_get T k r j hr hj
      have d0 : wr.cell? ⟨W.heap.size, k * 5, none⟩ = some (.string (S r.l)) := hcl 0 (by omega)
      have d1 : wr.cell? ⟨W.heap.size, k * 5 + 1, none⟩ = some (.bool r.x) := hcl 1 (by omega)
      have d2 : wr.cell? ⟨W.heap.size, k * 5 + 2, none⟩ = some (.int .i64 r.c) := hcl 2 (by omega)
      have d3 : wr.cell? ⟨W.heap.size, k * 5 + 3, none⟩ = some (.int .i64 r.a) := hcl 3 (by omega)
      have d4 : wr.cell? ⟨W.heap.size, k * 5 + 4, none⟩ = some (.int .i64 r.b) := hcl 4 (by omega)
      clear hcl
      go_upto_region 9 with fail
      obtain ⟨w2, hw2⟩ : ∃ w2, w2 = (wr.alloc (.cells #[.string (S r.l), .bool r.x, .int .i64 r.c, .int .i64 r.a, .int .i64 r.b] 82)).alloc (.cells #[.int .i64 0, .int .i64 0] 28) := ⟨_, rfl⟩
      rw [← hw2]
      have hBz : Below w0.heap.size w0 w2 := by rw [hw2]; exact (hB.alloc hB.size _).alloc (by have := hB.size; simp; omega) _
      have hB2 : Below W.heap.size W w2 := hB0.trans (hBz.mono (by omega))
      have hz2 : w2.heap.size = wr.heap.size + 2 := by rw [hw2]; simp
      have q0 : w2.heap[wr.heap.size]? = some (.cells #[.string (S r.l), .bool r.x, .int .i64 r.c, .int .i64 r.a, .int .i64 r.b] 82) := by rw [hw2]; exact (Below.heap_alloc _ _ _ (by simp)).trans (heap_alloc_new _ _)
      have q1 : w2.heap[wr.heap.size + 1]? = some (.cells #[.int .i64 0, .int .i64 0] 28) := by rw [hw2]; have := heap_alloc_new (wr.alloc (.cells #[.string (S r.l), .bool r.x, .int .i64 r.c, .int .i64 r.a, .int .i64 r.b] 82)) (.cells #[.int .i64 0, .int .i64 0] 28); simpa using this
      have e0 : w2.cell? ⟨wr.heap.size, 0, none⟩ = some (.string (S r.l)) := (block_cells q0).1 0
      have e1 : w2.cell? ⟨wr.heap.size, 1, none⟩ = some (.bool r.x) := (block_cells q0).1 1
      have kc : (convert 9 22 (.string (S r.l))).run Tryz.prog w2 = .ok (.slice (some ⟨w2.heap.size, 0, none⟩) (S r.l).size (grownCap w2 (S r.l).size 0 5)) (Lib.bytesWorld w2 5 (S r.l)) := Lib.run_convert_string_bytes w2 9 22 5 (S r.l) undS tyBytes und5
      clear hw2 d0 d1 d2 d3 d4
      cases hx : r.x with
      | true =>
        rw [hx] at e1
        have hcall := exprS_any w2 r.l r.c r.a r.b (hr2 hx) hr1 (HV.out w2 hB2).1 (HV.out w2 hB2).2
        rw [hz2] at hcall
        go_wp2_with fail
        refine hcall.mono ?_
        rintro e w3 ⟨hB3, v, rfl⟩
        have m0 := (hB3.block _ (by omega)).trans q0
        have m1 := (hB3.block _ (by omega)).trans q1
        have n2 : w3.cell? ⟨wr.heap.size, 2, none⟩ = some (.int .i64 r.c) := (block_cells m0).1 2
        have n3 : w3.cell? ⟨wr.heap.size, 3, none⟩ = some (.int .i64 r.a) := (block_cells m0).1 3
        have n4 : w3.cell? ⟨wr.heap.size, 4, none⟩ = some (.int .i64 r.b) := (block_cells m0).1 4
        have p0 : w3.cell? ⟨wr.heap.size + 1, 0, none⟩ = some (.int .i64 0) := (block_cells m1).1 0
        have p1 : w3.cell? ⟨wr.heap.size + 1, 1, none⟩ = some (.int .i64 0) := (block_cells m1).1 1
        have pz := (block_cells m1).2
        have HBN : Aside (∀ x y, Below w0.heap.size w0 ((w3.setCell ⟨wr.heap.size + 1, 0, none⟩ x).setCell ⟨wr.heap.size + 1, 1, none⟩ y)) := fun x y => ((hBz.trans (hB3.mono (by have := hB.size; omega))).setCell (by have := hB.size; show w0.heap.size ≤ wr.heap.size + 1; omega) _).setCell (by have := hB.size; show w0.heap.size ≤ wr.heap.size + 1; omega) _
        clear hcall hB3 m0 m1 q0 q1 e0 e1 kc
        go_wp2_with fail
        go_roundg (gk - 1)
        case measure => omega
        case rel => exact ⟨k + 1, by omega, by go_num, HBN.out _ _⟩
      | false =>
        rw [hx] at e1
        have hcall := modsS_any w2 r.l r.c r.a r.b (hr3 hx) hr1 (HV.out w2 hB2).1 (HV.out w2 hB2).2
        rw [hz2] at hcall
        go_wp2_with fail
        refine hcall.mono ?_
        rintro e w3 ⟨hB3, v, rfl⟩
        have m0 := (hB3.block _ (by omega)).trans q0
        have m1 := (hB3.block _ (by omega)).trans q1
        have n2 : w3.cell? ⟨wr.heap.size, 2, none⟩ = some (.int .i64 r.c) := (block_cells m0).1 2
        have n3 : w3.cell? ⟨wr.heap.size, 3, none⟩ = some (.int .i64 r.a) := (block_cells m0).1 3
        have n4 : w3.cell? ⟨wr.heap.size, 4, none⟩ = some (.int .i64 r.b) := (block_cells m0).1 4
        have p0 : w3.cell? ⟨wr.heap.size + 1, 0, none⟩ = some (.int .i64 0) := (block_cells m1).1 0
        have p1 : w3.cell? ⟨wr.heap.size + 1, 1, none⟩ = some (.int .i64 0) := (block_cells m1).1 1
        have pz := (block_cells m1).2
        have HBN : Aside (∀ x y, Below w0.heap.size w0 ((w3.setCell ⟨wr.heap.size + 1, 0, none⟩ x).setCell ⟨wr.heap.size + 1, 1, none⟩ y)) := fun x y => ((hBz.trans (hB3.mono (by have := hB.size; omega))).setCell (by have := hB.size; show w0.heap.size ≤ wr.heap.size + 1; omega) _).setCell (by have := hB.size; show w0.heap.size ≤ wr.heap.size + 1; omega) _
        clear hcall hB3 m0 m1 q0 q1 e0 e1 kc
        go_wp2_with fail
        go_roundg (gk - 1)
        case measure => omega
        case rel => exact ⟨k + 1, by omega, by go_num, HBN.out _ _⟩
    · have hk' : ¬ (k : Int) < 12 := by omega
      have hwk := works_any wr (HV.out wr hBw).1 (HV.out wr hBw).2
      have HBF : Aside (∀ w1, Below wr.heap.size wr w1 → Below W.heap.size W w1) := fun w1 h => hBw.trans (h.mono hBw.size)
      go_wp2_with fail
      refine hwk.mono ?_
      rintro e1 w1 ⟨rfl, hB1⟩
      go_wp2_with fail
      go_ret
      exact ⟨rfl, HBF.out _ hB1⟩
end Go.Proofs.YtohjfikjbeafiaaGreatDoor
