/- Package check: the rule of operations. Package check: the rule of uses. Package check: the rules of If and List. -/
import Derived.Test.YthihnkgjkmaplaaDoorUat
import Derived.Deep.RegionHeld
namespace Go.Proofs.YthihnkgjkmaplaaDoor
open Go.RowKit Ck
open T3.Tp (Ty enc cns met)
set_option maxRecDepth 100000
set_option linter.unusedSimpArgs false
/-- The checker's block holds the nodes. -/
def HasN (w : World) (cb : Nat) (v : Value) (l : List Tr.Nd) : Prop := w.cell? ⟨cb, 0, none⟩ = some v ∧ IsNodes w v l
theorem HasN.at {w : World} {cb : Nat} {v : Value} {l : List Tr.Nd} (h : HasN w cb v l) {i : Nat} {x : Tr.Nd} (hx : l[i]? = some x) :
    ∃ nb no c, v = .slice (some ⟨nb, no, none⟩) l.length c ∧ nb < w.heap.size ∧ ∀ j u, (Tr.ncells x)[j]? = some u → w.cell? ⟨nb, no + i * 8 + j, none⟩ = some u := by
  obtain ⟨a, c, rfl⟩ := h.2.form
  obtain ⟨b, o, rfl, h1, h2, h3⟩ := h.2.at hx
  exact ⟨b, o, c, rfl, h2, h3⟩

/-- Behind the first steps of rule: its two blocks. -/
structure Rl (w w0 : World) (x : Tr.Nd) : Prop where
  below : Below w.heap.size w w0
  size : w0.heap.size = w.heap.size + 2
  res : w0.heap[w.heap.size]? = some (.cells #[.int .i64 0, .int .i64 0] 53)
  nd : w0.heap[w.heap.size + 1]? = some (.cells (ndc x) 45)
theorem Rl.made (w : World) (x : Tr.Nd) : Rl w ((w.alloc (.cells #[.int .i64 0, .int .i64 0] 53)).alloc (.cells (ndc x) 45)) x :=
  ⟨((Below.refl _ _).alloc (Nat.le_refl _) _).alloc (by simp) _, by simp, (Below.heap_alloc _ _ _ (by simp)).trans (heap_alloc_new _ _), by have := heap_alloc_new (w.alloc (.cells #[.int .i64 0, .int .i64 0] 53)) (.cells (ndc x) 45); simpa using this⟩
/-- What a walk of rule knows of a later world. -/
theorem Rl.later {w w0 w1 : World} {x : Tr.Nd} (h : Rl w w0 x) (hB : Below w0.heap.size w0 w1) :
    ((w1.cell? ⟨w.heap.size, 0, none⟩ = some (.int .i64 0) ∧ w1.cell? ⟨w.heap.size, 1, none⟩ = some (.int .i64 0)) ∧ ∀ q, w1.frozen? ⟨w.heap.size, q, none⟩ = false) ∧
    (w1.cell? ⟨w.heap.size + 1, 0, none⟩ = some (.int .i8 x.kind) ∧ w1.cell? ⟨w.heap.size + 1, 3, none⟩ = some (.string x.s) ∧ w1.cell? ⟨w.heap.size + 1, 4, none⟩ = some (.string x.t) ∧ w1.cell? ⟨w.heap.size + 1, 5, none⟩ = some (.string x.u)) ∧
    Below w.heap.size w w1 ∧ ∀ p q, Below w.heap.size w ((w1.setCell ⟨w.heap.size, 0, none⟩ p).setCell ⟨w.heap.size, 1, none⟩ q) := by
  have k0 := (hB.block _ (by have := h.size; omega)).trans h.res
  have k1 := (hB.block _ (by have := h.size; omega)).trans h.nd
  have hb := h.below.trans (hB.mono (by have := h.size; omega))
  exact ⟨⟨⟨(block_cells k0).1 0, (block_cells k0).1 1⟩, (block_cells k0).2⟩, ⟨(block_cells k1).1 0, (block_cells k1).1 3, (block_cells k1).1 4, (block_cells k1).1 5⟩, hb, fun p q => (hb.setCell (by simp) _).setCell (by simp) _⟩

theorem Ans.form {R : Rs Ty} {e : Ending} (h : Ans R e) : ∃ s c p, e = .returned (.tuple #[.string s, .agg #[.int .i64 c, .int .i64 p]]) := by
  cases R with
  | ok t => obtain ⟨p, rfl⟩ := h; exact ⟨_, _, _, rfl⟩
  | error q => obtain ⟨_, s, rfl⟩ := h; exact ⟨_, _, _, rfl⟩

set_option maxHeartbeats 8000000 in
theorem rule_ops (w : World) (cb tb n i κ : Nat) (nv kv sv : Value) (l : List Tr.Nd) (x : Tr.Nd) (ks : List (Nat × Ty)) (e : List UInt8 × List UInt8) (hK : Kds w tb n kv ks) (hG : HasG w) (hu : usesL[κ]? = some (0, 0, [])) (he : opsL[κ]? = some e) (h1 : ks = [] ∨ e.1 = enc (opT κ).1) (h2 : e.2 = enc (opT κ).2) (h3 : (enc (opT κ).1).length ≤ 64) (hne : κ ≠ 4 ∧ κ ≠ 5 ∧ κ ≠ 6 ∧ κ ≠ 8 ∧ κ ≠ 29 ∧ κ ≠ 9 ∧ κ ≠ 18 ∧ κ ≠ 26 ∧ κ ≠ 21) (hx : l[i]? = some x) (hκ : x.kind = κ) (hN : HasN w cb nv l) (hT : HasT w cb tb n) :
    Calls Tryd.prog 33 #[.pointer (some ⟨cb, 0, none⟩), .int .i64 (i : Int), kv, sv] w fun e w' => Ans (opr (opT κ) ks) e ∧ Below w.heap.size w w' := by
  obtain ⟨nb, no, nc, rfl, hnb, hnd⟩ := hN.at hx
  have hil : i < l.length := (List.getElem?_eq_some_iff.1 hx).1
  have hil' : (i : Int) < (l.length : Int) := by omega
  have n0 : w.cell? ⟨cb, 0, none⟩ = some (.slice (some ⟨nb, no, none⟩) l.length nc) := hN.1
  have hcb : cb < w.heap.size := World.block_lt_of_cell? _ _ n0
  have hA : ∀ o, Below w.heap.size w (w.alloc o) := fun o => (Below.refl _ _).alloc (Nat.le_refl _) o
  have e0 : ∀ o, (w.alloc o).cell? ⟨cb, 0, none⟩ = some (.slice (some ⟨nb, no, none⟩) l.length nc) := fun o => ((hA o).cell hcb).trans n0
  have q0 : ∀ o, (w.alloc o).cell? ⟨nb, no + i * 8, none⟩ = some (.int .i8 x.kind) := fun o => ((hA o).cell hnb).trans (hnd 0 _ rfl)
  have q1 : ∀ o, (w.alloc o).cell? ⟨nb, no + i * 8 + 1, none⟩ = some (.int .i64 x.kids) := fun o => ((hA o).cell hnb).trans (hnd 1 _ rfl)
  have q2 : ∀ o, (w.alloc o).cell? ⟨nb, no + i * 8 + 2, none⟩ = some (.int .i64 x.n) := fun o => ((hA o).cell hnb).trans (hnd 2 _ rfl)
  have q3 : ∀ o, (w.alloc o).cell? ⟨nb, no + i * 8 + 3, none⟩ = some (.string x.s) := fun o => ((hA o).cell hnb).trans (hnd 3 _ rfl)
  have q4 : ∀ o, (w.alloc o).cell? ⟨nb, no + i * 8 + 4, none⟩ = some (.string x.t) := fun o => ((hA o).cell hnb).trans (hnd 4 _ rfl)
  have q5 : ∀ o, (w.alloc o).cell? ⟨nb, no + i * 8 + 5, none⟩ = some (.string x.u) := fun o => ((hA o).cell hnb).trans (hnd 5 _ rfl)
  have q6 : ∀ o, (w.alloc o).cell? ⟨nb, no + i * 8 + 6, none⟩ = some (.int .i64 x.ln) := fun o => ((hA o).cell hnb).trans (hnd 6 _ rfl)
  have q7 : ∀ o, (w.alloc o).cell? ⟨nb, no + i * 8 + 7, none⟩ = some (.int .i64 x.co) := fun o => ((hA o).cell hnb).trans (hnd 7 _ rfl)
  obtain ⟨w0, hw0⟩ : ∃ w0, w0 = (w.alloc (.cells #[.int .i64 0, .int .i64 0] 53)).alloc (.cells #[.int .i8 x.kind, .int .i64 x.kids, .int .i64 x.n, .string x.s, .string x.t, .string x.u, .int .i64 x.ln, .int .i64 x.co] 45) := ⟨_, rfl⟩
  have hR : Rl w w0 x := by rw [hw0]; exact Rl.made w x
  obtain ⟨R, hRR⟩ : ∃ R, R = opr (opT κ) ks := ⟨_, rfl⟩
  obtain ⟨⟨⟨r0, r1⟩, rz⟩, ⟨d0, d3, d4, d5⟩, -, -⟩ := hR.later (Below.refl _ _)
  have hκ18 : κ < 18 := (List.getElem?_eq_some_iff.1 he).1
  obtain ⟨u0, u1, u2⟩ := (hG.below hR.below).uses κ _ hu
  have hB1 : ∀ o, Below w0.heap.size w0 (w0.alloc o) := fun o => (Below.refl _ _).alloc (Nat.le_refl _) o
  have hbo : ∀ o, Below w.heap.size w (w0.alloc o) := fun o => hR.below.alloc (by have := hR.size; omega) o
  have o0 : ∀ o, (w0.alloc o).cell? ⟨1, κ * 2, none⟩ = some (.string (S e.1)) := fun o => ((hG.below (hbo o)).ops κ _ he).1
  have o1 : ∀ o, (w0.alloc o).cell? ⟨1, κ * 2 + 1, none⟩ = some (.string (S e.2)) := fun o => ((hG.below (hbo o)).ops κ _ he).2
  have dd : ∀ o, (w0.alloc o).cell? ⟨w.heap.size + 1, 0, none⟩ = some (.int .i8 (κ : Int)) := fun o => by rw [← hκ]; exact (hR.later (hB1 o)).2.1.1
  have HC : ∀ o, Calls Tryd.prog 58 #[.pointer (some ⟨cb, 0, none⟩), .agg #[.string (S e.1), .string (S e.2)], kv] (w0.alloc o) fun e w' => Ans R e ∧ Below (w0.alloc o).heap.size (w0.alloc o) w' := fun o => by
    rw [h2, hRR]
    exact operate_any _ cb tb n kv ks (S e.1) (opT κ) (hT.below hcb (hbo o)) (hK.below (hbo o)) (h1.imp_right (fun h => by rw [h])) h3
  rw [← hRR]
  have HRR : Aside _ := hRR
  clear hnd n0 hA hRR hG hT hK hN hB1 hbo h1 h2 h3 he hu
  go_enter Tryd.func33, Tryd.ntmps33
  go_upto_region 2 with fail
  rw [hκ] at hw0 d0
  rw [← hw0]
  clear hw0 e0 q0 q1 q2 q3 q4 q5 q6 q7
  obtain ⟨f4, f5, f6, f8, f29, f9, f18, f26, f21⟩ := hne
  have k29 : (κ : Int) < 29 := by omega
  have k18 : (κ : Int) < 18 := by omega
  have HC := HC (.cells #[.int .i64 0, .int .u8 0, .string (S [])] 94)
  go_wp2_with fail
  refine HC.mono ?_
  rintro e w1 ⟨hans, hB1⟩
  obtain ⟨s, c, p, rfl⟩ := hans.form
  have HA : Aside _ := hans
  obtain ⟨⟨⟨m0, m1⟩, mz⟩, -, -, hbf⟩ := hR.later (below_unalloc hB1)
  have HBF : Aside _ := hbf
  clear o0 o1 dd u0 u1 u2 hbf hans HC hR r0 r1 rz d0 d3 d4 d5
  clear hB1
  go_wp2_with fail
  try simp only [Exit.inBlock, Exit.then]
  refine bodyPost_ret (v := .tuple #[.string s, .agg #[.int .i64 c, .int .i64 p]]) (by simp [results, Tryd.results33, go_sem, m0, m1]) rfl ?_
  exact ⟨HA.out, HBF.out _ _⟩
end Go.Proofs.YthihnkgjkmaplaaDoor
namespace Go.Proofs.YthihnkgjkmaplaaDoor
open Go.RowKit Ck
open T3.Tp (Ty enc cns met)
set_option maxRecDepth 100000
set_option linter.unusedSimpArgs false
set_option maxHeartbeats 8000000 in
theorem rule_uses (w : World) (cb tb n i κ : Nat) (nv kv sv : Value) (l : List Tr.Nd) (x : Tr.Nd) (ks : List (Nat × Ty)) (z : Nat × UInt8 × List UInt8) (g : Nat) (k : Nat × Ty) (hK : Kds w tb n kv ks) (hG : HasG w) (hu : usesL[κ]? = some z) (hg : z.2.2 = gt g) (hk : ks[z.1]? = some k) (hh : z.2.1 = 62 ∨ z.2.1 = 44 ∨ z.2.1 = 108 ∨ z.2.1 = 120) (hne : κ ≠ 4 ∧ κ ≠ 5 ∧ κ ≠ 6 ∧ κ ≠ 8 ∧ κ ≠ 29 ∧ κ ≠ 9 ∧ κ ≠ 18 ∧ κ ≠ 26 ∧ κ ≠ 21) (hx : l[i]? = some x) (hκ : x.kind = κ) (hN : HasN w cb nv l) (hT : HasT w cb tb n) :
    Calls Tryd.prog 33 #[.pointer (some ⟨cb, 0, none⟩), .int .i64 (i : Int), kv, sv] w fun e w' => Ans (use (z.1, z.2.1, g) ks) e ∧ Below w.heap.size w w' := by
  obtain ⟨nb, no, nc, rfl, hnb, hnd⟩ := hN.at hx
  have hil : i < l.length := (List.getElem?_eq_some_iff.1 hx).1
  have hil' : (i : Int) < (l.length : Int) := by omega
  have n0 : w.cell? ⟨cb, 0, none⟩ = some (.slice (some ⟨nb, no, none⟩) l.length nc) := hN.1
  have hcb : cb < w.heap.size := World.block_lt_of_cell? _ _ n0
  have hA : ∀ o, Below w.heap.size w (w.alloc o) := fun o => (Below.refl _ _).alloc (Nat.le_refl _) o
  have e0 : ∀ o, (w.alloc o).cell? ⟨cb, 0, none⟩ = some (.slice (some ⟨nb, no, none⟩) l.length nc) := fun o => ((hA o).cell hcb).trans n0
  have q0 : ∀ o, (w.alloc o).cell? ⟨nb, no + i * 8, none⟩ = some (.int .i8 x.kind) := fun o => ((hA o).cell hnb).trans (hnd 0 _ rfl)
  have q1 : ∀ o, (w.alloc o).cell? ⟨nb, no + i * 8 + 1, none⟩ = some (.int .i64 x.kids) := fun o => ((hA o).cell hnb).trans (hnd 1 _ rfl)
  have q2 : ∀ o, (w.alloc o).cell? ⟨nb, no + i * 8 + 2, none⟩ = some (.int .i64 x.n) := fun o => ((hA o).cell hnb).trans (hnd 2 _ rfl)
  have q3 : ∀ o, (w.alloc o).cell? ⟨nb, no + i * 8 + 3, none⟩ = some (.string x.s) := fun o => ((hA o).cell hnb).trans (hnd 3 _ rfl)
  have q4 : ∀ o, (w.alloc o).cell? ⟨nb, no + i * 8 + 4, none⟩ = some (.string x.t) := fun o => ((hA o).cell hnb).trans (hnd 4 _ rfl)
  have q5 : ∀ o, (w.alloc o).cell? ⟨nb, no + i * 8 + 5, none⟩ = some (.string x.u) := fun o => ((hA o).cell hnb).trans (hnd 5 _ rfl)
  have q6 : ∀ o, (w.alloc o).cell? ⟨nb, no + i * 8 + 6, none⟩ = some (.int .i64 x.ln) := fun o => ((hA o).cell hnb).trans (hnd 6 _ rfl)
  have q7 : ∀ o, (w.alloc o).cell? ⟨nb, no + i * 8 + 7, none⟩ = some (.int .i64 x.co) := fun o => ((hA o).cell hnb).trans (hnd 7 _ rfl)
  obtain ⟨w0, hw0⟩ : ∃ w0, w0 = (w.alloc (.cells #[.int .i64 0, .int .i64 0] 53)).alloc (.cells #[.int .i8 x.kind, .int .i64 x.kids, .int .i64 x.n, .string x.s, .string x.t, .string x.u, .int .i64 x.ln, .int .i64 x.co] 45) := ⟨_, rfl⟩
  have hR : Rl w w0 x := by rw [hw0]; exact Rl.made w x
  obtain ⟨R, hRR⟩ : ∃ R, R = use (z.1, z.2.1, g) ks := ⟨_, rfl⟩
  obtain ⟨⟨⟨r0, r1⟩, rz⟩, ⟨d0, d3, d4, d5⟩, -, -⟩ := hR.later (Below.refl _ _)
  have hκ18 : κ < 29 := (List.getElem?_eq_some_iff.1 hu).1
  obtain ⟨u0, u1, u2⟩ := (hG.below hR.below).uses κ _ hu
  have hbo : ∀ o, Below w.heap.size w (w0.alloc o) := fun o => hR.below.alloc (by have := hR.size; omega) o
  have hh0 : ((z.2.1.toNat : Int) != 0) = true := by rcases hh with h | h | h | h <;> rw [h] <;> rfl
  have HC : ∀ o, Calls Tryd.prog 57 #[.pointer (some ⟨cb, 0, none⟩), .agg #[.int .i64 (z.1 : Int), .int .u8 (z.2.1.toNat : Int), .string (S z.2.2)], kv] (w0.alloc o) fun e w' => Ans R e ∧ Below (w0.alloc o).heap.size (w0.alloc o) w' := fun o => by
    rw [hg, hRR]
    exact use_any _ cb tb n z.1 g z.2.1 kv ks k (hT.below hcb (hbo o)) (hK.below (hbo o)) hk hh (hG.below (hbo o)).m
  rw [← hRR]
  have HRR : Aside _ := hRR
  clear hnd n0 hA hRR hG hT hK hN hbo hh hg hk hu
  go_enter Tryd.func33, Tryd.ntmps33
  go_upto_region 2 with fail
  rw [hκ] at hw0 d0
  rw [← hw0]
  clear hw0 e0 q0 q1 q2 q3 q4 q5 q6 q7
  obtain ⟨f4, f5, f6, f8, f29, f9, f18, f26, f21⟩ := hne
  have k29 : (κ : Int) < 29 := by omega
  have HC := HC (.cells #[.int .i64 (z.1 : Int), .int .u8 (z.2.1.toNat : Int), .string (S z.2.2)] 94)
  generalize (z.2.1.toNat : Int) = hn at *
  go_wp2_with fail
  refine HC.mono ?_
  rintro e w1 ⟨hans, hB1⟩
  obtain ⟨s, c, p, rfl⟩ := hans.form
  have HA : Aside _ := hans
  obtain ⟨⟨⟨m0, m1⟩, mz⟩, -, -, hbf⟩ := hR.later (below_unalloc hB1)
  have HBF : Aside _ := hbf
  clear u0 u1 u2 hbf hans HC hR r0 r1 rz d0 d3 d4 d5
  clear hB1
  go_wp2_with fail
  try simp only [Exit.inBlock, Exit.then]
  refine bodyPost_ret (v := .tuple #[.string s, .agg #[.int .i64 c, .int .i64 p]]) (by simp [results, Tryd.results33, go_sem, m0, m1]) rfl ?_
  exact ⟨HA.out, HBF.out _ _⟩
end Go.Proofs.YthihnkgjkmaplaaDoor
namespace Go.Proofs.YthihnkgjkmaplaaDoor
open Go.RowKit Ck
open T3.Tp (Ty enc cns met)
set_option maxRecDepth 100000
set_option linter.unusedSimpArgs false
set_option maxHeartbeats 8000000 in
theorem rule_if (w : World) (cb tb n i : Nat) (nv kv sv : Value) (l : List Tr.Nd) (x : Tr.Nd) (c a b : Nat × Ty) (hK : Kds w tb n kv [c, a, b]) (hx : l[i]? = some x) (hκ : x.kind = 9) (hN : HasN w cb nv l) (hT : HasT w cb tb n) :
    Calls Tryd.prog 33 #[.pointer (some ⟨cb, 0, none⟩), .int .i64 (i : Int), kv, sv] w fun e w' => Ans (if cns c.2 .tb then meetK i a.2 b else .error (23, c.1)) e ∧ Below w.heap.size w w' := by
  obtain ⟨nb, no, nc, rfl, hnb, hnd⟩ := hN.at hx
  have hil : i < l.length := (List.getElem?_eq_some_iff.1 hx).1
  have hil' : (i : Int) < (l.length : Int) := by omega
  have n0 : w.cell? ⟨cb, 0, none⟩ = some (.slice (some ⟨nb, no, none⟩) l.length nc) := hN.1
  have hcb : cb < w.heap.size := World.block_lt_of_cell? _ _ n0
  have hA : ∀ o, Below w.heap.size w (w.alloc o) := fun o => (Below.refl _ _).alloc (Nat.le_refl _) o
  have e0 : ∀ o, (w.alloc o).cell? ⟨cb, 0, none⟩ = some (.slice (some ⟨nb, no, none⟩) l.length nc) := fun o => ((hA o).cell hcb).trans n0
  have q0 : ∀ o, (w.alloc o).cell? ⟨nb, no + i * 8, none⟩ = some (.int .i8 x.kind) := fun o => ((hA o).cell hnb).trans (hnd 0 _ rfl)
  have q1 : ∀ o, (w.alloc o).cell? ⟨nb, no + i * 8 + 1, none⟩ = some (.int .i64 x.kids) := fun o => ((hA o).cell hnb).trans (hnd 1 _ rfl)
  have q2 : ∀ o, (w.alloc o).cell? ⟨nb, no + i * 8 + 2, none⟩ = some (.int .i64 x.n) := fun o => ((hA o).cell hnb).trans (hnd 2 _ rfl)
  have q3 : ∀ o, (w.alloc o).cell? ⟨nb, no + i * 8 + 3, none⟩ = some (.string x.s) := fun o => ((hA o).cell hnb).trans (hnd 3 _ rfl)
  have q4 : ∀ o, (w.alloc o).cell? ⟨nb, no + i * 8 + 4, none⟩ = some (.string x.t) := fun o => ((hA o).cell hnb).trans (hnd 4 _ rfl)
  have q5 : ∀ o, (w.alloc o).cell? ⟨nb, no + i * 8 + 5, none⟩ = some (.string x.u) := fun o => ((hA o).cell hnb).trans (hnd 5 _ rfl)
  have q6 : ∀ o, (w.alloc o).cell? ⟨nb, no + i * 8 + 6, none⟩ = some (.int .i64 x.ln) := fun o => ((hA o).cell hnb).trans (hnd 6 _ rfl)
  have q7 : ∀ o, (w.alloc o).cell? ⟨nb, no + i * 8 + 7, none⟩ = some (.int .i64 x.co) := fun o => ((hA o).cell hnb).trans (hnd 7 _ rfl)
  obtain ⟨w0, hw0⟩ : ∃ w0, w0 = (w.alloc (.cells #[.int .i64 0, .int .i64 0] 53)).alloc (.cells #[.int .i8 x.kind, .int .i64 x.kids, .int .i64 x.n, .string x.s, .string x.t, .string x.u, .int .i64 x.ln, .int .i64 x.co] 45) := ⟨_, rfl⟩
  have hR : Rl w w0 x := by rw [hw0]; exact Rl.made w x
  obtain ⟨R, hRR⟩ : ∃ R, R = if cns c.2 .tb then meetK i a.2 b else .error (23, c.1) := ⟨_, rfl⟩
  obtain ⟨⟨⟨r0, r1⟩, rz⟩, ⟨d0, d3, d4, d5⟩, -, -⟩ := hR.later (Below.refl _ _)
  have HC : Calls Tryd.prog 54 #[.pointer (some ⟨cb, 0, none⟩), .int .i64 (i : Int), kv] w0 fun e w' => Ans R e ∧ Below w0.heap.size w0 w' := by
    rw [hRR]
    exact choose_any _ cb tb n i kv c a b (hT.below hcb hR.below) (hK.below hR.below)
  rw [← hRR]
  have HRR : Aside _ := hRR
  clear hnd n0 hA hRR hT hK hN
  go_enter Tryd.func33, Tryd.ntmps33
  go_upto_region 2 with fail
  rw [hκ] at hw0 d0
  rw [← hw0]
  clear hw0 e0 q0 q1 q2 q3 q4 q5 q6 q7
  go_wp2_with fail
  refine HC.mono ?_
  rintro e w1 ⟨hans, hB1⟩
  obtain ⟨s, c, p, rfl⟩ := hans.form
  have HA : Aside _ := hans
  obtain ⟨⟨⟨m0, m1⟩, mz⟩, -, -, hbf⟩ := hR.later (hB1)
  have HBF : Aside _ := hbf
  clear hbf hans HC hR r0 r1 rz d0 d3 d4 d5
  clear hB1
  go_wp2_with fail
  try simp only [Exit.inBlock, Exit.then]
  refine bodyPost_ret (v := .tuple #[.string s, .agg #[.int .i64 c, .int .i64 p]]) (by simp [results, Tryd.results33, go_sem, m0, m1]) rfl ?_
  exact ⟨HA.out, HBF.out _ _⟩
set_option maxHeartbeats 8000000 in
theorem rule_list (w : World) (cb tb n i : Nat) (nv kv sv : Value) (l : List Tr.Nd) (x : Tr.Nd) (ks : List (Nat × Ty)) (hK : Kds w tb n kv ks) (hx : l[i]? = some x) (hκ : x.kind = 21) (hN : HasN w cb nv l) (hT : HasT w cb tb n) :
    Calls Tryd.prog 33 #[.pointer (some ⟨cb, 0, none⟩), .int .i64 (i : Int), kv, sv] w fun e w' => Ans (lst i .tq ks) e ∧ Below w.heap.size w w' := by
  obtain ⟨nb, no, nc, rfl, hnb, hnd⟩ := hN.at hx
  have hil : i < l.length := (List.getElem?_eq_some_iff.1 hx).1
  have hil' : (i : Int) < (l.length : Int) := by omega
  have n0 : w.cell? ⟨cb, 0, none⟩ = some (.slice (some ⟨nb, no, none⟩) l.length nc) := hN.1
  have hcb : cb < w.heap.size := World.block_lt_of_cell? _ _ n0
  have hA : ∀ o, Below w.heap.size w (w.alloc o) := fun o => (Below.refl _ _).alloc (Nat.le_refl _) o
  have e0 : ∀ o, (w.alloc o).cell? ⟨cb, 0, none⟩ = some (.slice (some ⟨nb, no, none⟩) l.length nc) := fun o => ((hA o).cell hcb).trans n0
  have q0 : ∀ o, (w.alloc o).cell? ⟨nb, no + i * 8, none⟩ = some (.int .i8 x.kind) := fun o => ((hA o).cell hnb).trans (hnd 0 _ rfl)
  have q1 : ∀ o, (w.alloc o).cell? ⟨nb, no + i * 8 + 1, none⟩ = some (.int .i64 x.kids) := fun o => ((hA o).cell hnb).trans (hnd 1 _ rfl)
  have q2 : ∀ o, (w.alloc o).cell? ⟨nb, no + i * 8 + 2, none⟩ = some (.int .i64 x.n) := fun o => ((hA o).cell hnb).trans (hnd 2 _ rfl)
  have q3 : ∀ o, (w.alloc o).cell? ⟨nb, no + i * 8 + 3, none⟩ = some (.string x.s) := fun o => ((hA o).cell hnb).trans (hnd 3 _ rfl)
  have q4 : ∀ o, (w.alloc o).cell? ⟨nb, no + i * 8 + 4, none⟩ = some (.string x.t) := fun o => ((hA o).cell hnb).trans (hnd 4 _ rfl)
  have q5 : ∀ o, (w.alloc o).cell? ⟨nb, no + i * 8 + 5, none⟩ = some (.string x.u) := fun o => ((hA o).cell hnb).trans (hnd 5 _ rfl)
  have q6 : ∀ o, (w.alloc o).cell? ⟨nb, no + i * 8 + 6, none⟩ = some (.int .i64 x.ln) := fun o => ((hA o).cell hnb).trans (hnd 6 _ rfl)
  have q7 : ∀ o, (w.alloc o).cell? ⟨nb, no + i * 8 + 7, none⟩ = some (.int .i64 x.co) := fun o => ((hA o).cell hnb).trans (hnd 7 _ rfl)
  obtain ⟨w0, hw0⟩ : ∃ w0, w0 = (w.alloc (.cells #[.int .i64 0, .int .i64 0] 53)).alloc (.cells #[.int .i8 x.kind, .int .i64 x.kids, .int .i64 x.n, .string x.s, .string x.t, .string x.u, .int .i64 x.ln, .int .i64 x.co] 45) := ⟨_, rfl⟩
  have hR : Rl w w0 x := by rw [hw0]; exact Rl.made w x
  obtain ⟨R, hRR⟩ : ∃ R, R = lst i .tq ks := ⟨_, rfl⟩
  obtain ⟨⟨⟨r0, r1⟩, rz⟩, ⟨d0, d3, d4, d5⟩, -, -⟩ := hR.later (Below.refl _ _)
  have HC : Calls Tryd.prog 56 #[.pointer (some ⟨cb, 0, none⟩), .int .i64 (i : Int), kv] w0 fun e w' => Ans R e ∧ Below w0.heap.size w0 w' := by
    rw [hRR]
    exact list_any _ cb tb n i kv ks (hT.below hcb hR.below) (hK.below hR.below)
  rw [← hRR]
  have HRR : Aside _ := hRR
  clear hnd n0 hA hRR hT hK hN
  go_enter Tryd.func33, Tryd.ntmps33
  go_upto_region 2 with fail
  rw [hκ] at hw0 d0
  rw [← hw0]
  clear hw0 e0 q0 q1 q2 q3 q4 q5 q6 q7
  go_wp2_with fail
  refine HC.mono ?_
  rintro e w1 ⟨hans, hB1⟩
  obtain ⟨s, c, p, rfl⟩ := hans.form
  have HA : Aside _ := hans
  obtain ⟨⟨⟨m0, m1⟩, mz⟩, -, -, hbf⟩ := hR.later (hB1)
  have HBF : Aside _ := hbf
  clear hbf hans HC hR r0 r1 rz d0 d3 d4 d5
  clear hB1
  go_wp2_with fail
  try simp only [Exit.inBlock, Exit.then]
  refine bodyPost_ret (v := .tuple #[.string s, .agg #[.int .i64 c, .int .i64 p]]) (by simp [results, Tryd.results33, go_sem, m0, m1]) rfl ?_
  exact ⟨HA.out, HBF.out _ _⟩
end Go.Proofs.YthihnkgjkmaplaaDoor
