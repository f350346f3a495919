/- Package check: the two tables; the rule of operations and of uses. Package check: the rule of operations. Package check: the rule of uses. Package check: the rules of If and List. Package check: the rule of Var. Package check: the rules of Fn and Rec. -/
import Derived.Test.YthdlfeejeboboaaGreatDoorUao
import Derived.Deep.RegionHeld
namespace Go.Proofs.YthdlfeejeboboaaGreatDoor
open Go.RowKit Ck
open T3.Tp (Ty enc cns met)
set_option maxRecDepth 100000
set_option linter.unusedSimpArgs false

def usesL : List (Nat × UInt8 × List UInt8) := [(0, 0, []), (0, 0, []), (0, 0, []), (0, 0, []), (0, 0, []), (0, 0, []), (0, 0, []), (0, 62, [66]), (0, 0, []), (0, 0, []), (0, 0, []), (0, 0, []), (0, 0, []), (0, 0, []), (0, 0, []), (0, 0, []), (0, 0, []), (0, 0, []), (0, 0, []), (0, 44, [65]), (0, 44, [66]), (0, 0, []), (0, 108, [65]), (0, 108, [108, 65]), (0, 108, [98]), (1, 108, [108, 65]), (0, 0, []), (0, 120, [65]), (0, 120, [65])]
def opsL : List (List UInt8 × List UInt8) := [([], []), ([], [105]), ([], [116]), ([], [98]), ([], []), ([], []), ([], []), ([], []), ([], []), ([], []), ([105], [105]), ([105], [105]), ([105], [105]), ([116], [116]), ([105], [98]), ([105], [98]), ([105], [105]), ([116], [105])]
structure HasG (w : World) : Prop where
  m : HasM w
  uses : ∀ (k : Nat) e, usesL[k]? = some e → w.cell? ⟨0, k * 3, none⟩ = some (.int .i64 (e.1 : Int)) ∧ w.cell? ⟨0, k * 3 + 1, none⟩ = some (.int .u8 (e.2.1.toNat : Int)) ∧ w.cell? ⟨0, k * 3 + 2, none⟩ = some (.string (S e.2.2))
  ops : ∀ (k : Nat) e, opsL[k]? = some e → w.cell? ⟨1, k * 2, none⟩ = some (.string (S e.1)) ∧ w.cell? ⟨1, k * 2 + 1, none⟩ = some (.string (S e.2))
theorem HasG.two {w w' : World} {a b : Nat} (h : HasG w) (hT : Two a b w w') (ha : 8 ≤ a) (hb : 8 ≤ b) : HasG w' := by
  obtain ⟨⟨m, hm⟩, hu, ho⟩ := h
  refine ⟨⟨m, (hT.cell (World.block_lt_of_cell? _ _ hm) (by show 3 ≠ a; omega) (by show 3 ≠ b; omega)).trans hm⟩, fun k e he => ?_, fun k e he => ?_⟩
  · obtain ⟨h1, h2, h3⟩ := hu k e he
    have hl : 0 < w.heap.size := World.block_lt_of_cell? _ _ h1
    exact ⟨(hT.cell hl (by show 0 ≠ a; omega) (by show 0 ≠ b; omega)).trans h1, (hT.cell hl (by show 0 ≠ a; omega) (by show 0 ≠ b; omega)).trans h2, (hT.cell hl (by show 0 ≠ a; omega) (by show 0 ≠ b; omega)).trans h3⟩
  · obtain ⟨h1, h2⟩ := ho k e he
    have hl : 1 < w.heap.size := World.block_lt_of_cell? _ _ h1
    exact ⟨(hT.cell hl (by show 1 ≠ a; omega) (by show 1 ≠ b; omega)).trans h1, (hT.cell hl (by show 1 ≠ a; omega) (by show 1 ≠ b; omega)).trans h2⟩
theorem HasG.below {w w' : World} (h : HasG w) (hB : Below w.heap.size w w') : HasG w' := h.two (below_two hB 8 8) (Nat.le_refl _) (Nat.le_refl _)

def ndc (x : Tr.Nd) : Array Value := #[.int .i8 x.kind, .int .i64 x.kids, .int .i64 x.n, .string x.s, .string x.t, .string x.u, .int .i64 x.ln, .int .i64 x.co]
end Go.Proofs.YthdlfeejeboboaaGreatDoor
namespace Go.Proofs.YthdlfeejeboboaaGreatDoor
open Go.RowKit Ck
open T3.Tp (Ty enc cns met)
set_option maxRecDepth 100000
set_option linter.unusedSimpArgs false
def HasN (w : World) (cb : Nat) (v : Value) (l : List Tr.Nd) : Prop := w.cell? ⟨cb, 0, none⟩ = some v ∧ IsNodes w v l
theorem HasN.at {w : World} {cb : Nat} {v : Value} {l : List Tr.Nd} (h : HasN w cb v l) {i : Nat} {x : Tr.Nd} (hx : l[i]? = some x) :
    ∃ nb no c, v = .slice (some ⟨nb, no, none⟩) l.length c ∧ nb < w.heap.size ∧ ∀ j u, (Tr.ncells x)[j]? = some u → w.cell? ⟨nb, no + i * 8 + j, none⟩ = some u := by
  obtain ⟨a, c, rfl⟩ := h.2.form
  obtain ⟨b, o, rfl, h1, h2, h3⟩ := h.2.at hx
  exact ⟨b, o, c, rfl, h2, h3⟩

structure Rl (w w0 : World) (x : Tr.Nd) : Prop where
  below : Below w.heap.size w w0
  size : w0.heap.size = w.heap.size + 2
  res : w0.heap[w.heap.size]? = some (.cells #[.int .i64 0, .int .i64 0] 98)
  nd : w0.heap[w.heap.size + 1]? = some (.cells (ndc x) 72)
theorem Rl.made (w : World) (x : Tr.Nd) : Rl w ((w.alloc (.cells #[.int .i64 0, .int .i64 0] 98)).alloc (.cells (ndc x) 72)) x :=
  ⟨((Below.refl _ _).alloc (Nat.le_refl _) _).alloc (by simp) _, by simp, (Below.heap_alloc _ _ _ (by simp)).trans (heap_alloc_new _ _), by have := heap_alloc_new (w.alloc (.cells #[.int .i64 0, .int .i64 0] 98)) (.cells (ndc x) 72); simpa using this⟩
theorem Rl.later {w w0 w1 : World} {x : Tr.Nd} (h : Rl w w0 x) (hB : Below w0.heap.size w0 w1) :
    ((w1.cell? ⟨w.heap.size, 0, none⟩ = some (.int .i64 0) ∧ w1.cell? ⟨w.heap.size, 1, none⟩ = some (.int .i64 0)) ∧ ∀ q, w1.frozen? ⟨w.heap.size, q, none⟩ = false) ∧
    (w1.cell? ⟨w.heap.size + 1, 0, none⟩ = some (.int .i8 x.kind) ∧ w1.cell? ⟨w.heap.size + 1, 3, none⟩ = some (.string x.s) ∧ w1.cell? ⟨w.heap.size + 1, 4, none⟩ = some (.string x.t) ∧ w1.cell? ⟨w.heap.size + 1, 5, none⟩ = some (.string x.u)) ∧
    Below w.heap.size w w1 ∧ ∀ p q, Below w.heap.size w ((w1.setCell ⟨w.heap.size, 0, none⟩ p).setCell ⟨w.heap.size, 1, none⟩ q) := by
  have k0 := (hB.block _ (by have := h.size; omega)).trans h.res
  have k1 := (hB.block _ (by have := h.size; omega)).trans h.nd
  have hb := h.below.trans (hB.mono (by have := h.size; omega))
  exact ⟨⟨⟨(block_cells k0).1 0, (block_cells k0).1 1⟩, (block_cells k0).2⟩, ⟨(block_cells k1).1 0, (block_cells k1).1 3, (block_cells k1).1 4, (block_cells k1).1 5⟩, hb, fun p q => (hb.setCell (by simp) _).setCell (by simp) _⟩

theorem Ans.form {R : Rs Ty} {e : Ending} (h : Ans R e) : ∃ s c p, e = .returned (.tuple #[.string s, .agg #[.int .i64 c, .int .i64 p]]) := by
  cases R with
  | ok t => obtain ⟨p, rfl⟩ := h; exact ⟨_, _, _, rfl⟩
  | error q => obtain ⟨_, s, rfl⟩ := h; exact ⟨_, _, _, rfl⟩

set_option maxHeartbeats 8000000 in
theorem rule_ops (w : World) (cb tb n i κ : Nat) (nv kv sv : Value) (l : List Tr.Nd) (x : Tr.Nd) (ks : List (Nat × Ty)) (e : List UInt8 × List UInt8) (hK : Kds w tb n kv ks) (hG : HasG w) (hu : usesL[κ]? = some (0, 0, [])) (he : opsL[κ]? = some e) (h1 : ks = [] ∨ e.1 = enc (opT κ).1) (h2 : e.2 = enc (opT κ).2) (h3 : (enc (opT κ).1).length ≤ 64) (hne : κ ≠ 4 ∧ κ ≠ 5 ∧ κ ≠ 6 ∧ κ ≠ 8 ∧ κ ≠ 29 ∧ κ ≠ 9 ∧ κ ≠ 18 ∧ κ ≠ 26 ∧ κ ≠ 21) (hx : l[i]? = some x) (hκ : x.kind = κ) (hN : HasN w cb nv l) (hT : HasT w cb tb n) :
    Calls Tryz.prog 82 #[.pointer (some ⟨cb, 0, none⟩), .int .i64 (i : Int), kv, sv] w fun e w' => Ans (opr (opT κ) ks) e ∧ Below w.heap.size w w' := by
  obtain ⟨nb, no, nc, rfl, hnb, hnd⟩ := hN.at hx
  have hil : i < l.length := (List.getElem?_eq_some_iff.1 hx).1
  have hil' : (i : Int) < (l.length : Int) := by omega
  have n0 : w.cell? ⟨cb, 0, none⟩ = some (.slice (some ⟨nb, no, none⟩) l.length nc) := hN.1
  have hcb : cb < w.heap.size := World.block_lt_of_cell? _ _ n0
  have hA : ∀ o, Below w.heap.size w (w.alloc o) := fun o => (Below.refl _ _).alloc (Nat.le_refl _) o
  have e0 : ∀ o, (w.alloc o).cell? ⟨cb, 0, none⟩ = some (.slice (some ⟨nb, no, none⟩) l.length nc) := fun o => ((hA o).cell hcb).trans n0
  have q0 : ∀ o, (w.alloc o).cell? ⟨nb, no + i * 8, none⟩ = some (.int .i8 x.kind) := fun o => ((hA o).cell hnb).trans (hnd 0 _ rfl)
  have q1 : ∀ o, (w.alloc o).cell? ⟨nb, no + i * 8 + 1, none⟩ = some (.int .i64 x.kids) := fun o => ((hA o).cell hnb).trans (hnd 1 _ rfl)
  have q2 : ∀ o, (w.alloc o).cell? ⟨nb, no + i * 8 + 2, none⟩ = some (.int .i64 x.n) := fun o => ((hA o).cell hnb).trans (hnd 2 _ rfl)
  have q3 : ∀ o, (w.alloc o).cell? ⟨nb, no + i * 8 + 3, none⟩ = some (.string x.s) := fun o => ((hA o).cell hnb).trans (hnd 3 _ rfl)
  have q4 : ∀ o, (w.alloc o).cell? ⟨nb, no + i * 8 + 4, none⟩ = some (.string x.t) := fun o => ((hA o).cell hnb).trans (hnd 4 _ rfl)
  have q5 : ∀ o, (w.alloc o).cell? ⟨nb, no + i * 8 + 5, none⟩ = some (.string x.u) := fun o => ((hA o).cell hnb).trans (hnd 5 _ rfl)
  have q6 : ∀ o, (w.alloc o).cell? ⟨nb, no + i * 8 + 6, none⟩ = some (.int .i64 x.ln) := fun o => ((hA o).cell hnb).trans (hnd 6 _ rfl)
  have q7 : ∀ o, (w.alloc o).cell? ⟨nb, no + i * 8 + 7, none⟩ = some (.int .i64 x.co) := fun o => ((hA o).cell hnb).trans (hnd 7 _ rfl)
  obtain ⟨w0, hw0⟩ : ∃ w0, w0 = (w.alloc (.cells #[.int .i64 0, .int .i64 0] 98)).alloc (.cells #[.int .i8 x.kind, .int .i64 x.kids, .int .i64 x.n, .string x.s, .string x.t, .string x.u, .int .i64 x.ln, .int .i64 x.co] 72) := ⟨_, rfl⟩
  have hR : Rl w w0 x := by rw [hw0]; exact Rl.made w x
  obtain ⟨R, hRR⟩ : ∃ R, R = opr (opT κ) ks := ⟨_, rfl⟩
  obtain ⟨⟨⟨r0, r1⟩, rz⟩, ⟨d0, d3, d4, d5⟩, -, -⟩ := hR.later (Below.refl _ _)
  have hκ18 : κ < 18 := (List.getElem?_eq_some_iff.1 he).1
  obtain ⟨u0, u1, u2⟩ := (hG.below hR.below).uses κ _ hu
  have hB1 : ∀ o, Below w0.heap.size w0 (w0.alloc o) := fun o => (Below.refl _ _).alloc (Nat.le_refl _) o
  have hbo : ∀ o, Below w.heap.size w (w0.alloc o) := fun o => hR.below.alloc (by have := hR.size; omega) o
  have o0 : ∀ o, (w0.alloc o).cell? ⟨1, κ * 2, none⟩ = some (.string (S e.1)) := fun o => ((hG.below (hbo o)).ops κ _ he).1
  have o1 : ∀ o, (w0.alloc o).cell? ⟨1, κ * 2 + 1, none⟩ = some (.string (S e.2)) := fun o => ((hG.below (hbo o)).ops κ _ he).2
  have dd : ∀ o, (w0.alloc o).cell? ⟨w.heap.size + 1, 0, none⟩ = some (.int .i8 (κ : Int)) := fun o => by rw [← hκ]; exact (hR.later (hB1 o)).2.1.1
  have HC : ∀ o, Calls Tryz.prog 148 #[.pointer (some ⟨cb, 0, none⟩), .agg #[.string (S e.1), .string (S e.2)], kv] (w0.alloc o) fun e w' => Ans R e ∧ Below (w0.alloc o).heap.size (w0.alloc o) w' := fun o => by
    rw [h2, hRR]
    exact operate_any _ cb tb n kv ks (S e.1) (opT κ) (hT.below hcb (hbo o)) (hK.below (hbo o)) (h1.imp_right (fun h => by rw [h])) h3
  rw [← hRR]
  have HRR : Aside _ := hRR
  clear hnd n0 hA hRR hG hT hK hN hB1 hbo h1 h2 h3 he hu
  go_enter Tryz.func82, Tryz.ntmps82
  go_upto_region 2 with fail
  rw [hκ] at hw0 d0
  rw [← hw0]
  clear hw0 e0 q0 q1 q2 q3 q4 q5 q6 q7
  obtain ⟨f4, f5, f6, f8, f29, f9, f18, f26, f21⟩ := hne
  have k29 : (κ : Int) < 29 := by omega
  have k18 : (κ : Int) < 18 := by omega
  have HC := HC (.cells #[.int .i64 0, .int .u8 0, .string (S [])] 213)
  go_wp2_with fail
  refine HC.mono ?_
  rintro e w1 ⟨hans, hB1⟩
  obtain ⟨s, c, p, rfl⟩ := hans.form
  have HA : Aside _ := hans
  obtain ⟨⟨⟨m0, m1⟩, mz⟩, -, -, hbf⟩ := hR.later (below_unalloc hB1)
  have HBF : Aside _ := hbf
  clear o0 o1 dd u0 u1 u2 hbf hans HC hR r0 r1 rz d0 d3 d4 d5
  clear hB1
  go_wp2_with fail
  try simp only [Exit.inBlock, Exit.then]
  refine bodyPost_ret (v := .tuple #[.string s, .agg #[.int .i64 c, .int .i64 p]]) (by simp [results, Tryz.results82, go_sem, m0, m1]) rfl ?_
  exact ⟨HA.out, HBF.out _ _⟩
end Go.Proofs.YthdlfeejeboboaaGreatDoor
namespace Go.Proofs.YthdlfeejeboboaaGreatDoor
open Go.RowKit Ck
open T3.Tp (Ty enc cns met)
set_option maxRecDepth 100000
set_option linter.unusedSimpArgs false
set_option maxHeartbeats 8000000 in
theorem rule_uses (w : World) (cb tb n i κ : Nat) (nv kv sv : Value) (l : List Tr.Nd) (x : Tr.Nd) (ks : List (Nat × Ty)) (z : Nat × UInt8 × List UInt8) (g : Nat) (k : Nat × Ty) (hK : Kds w tb n kv ks) (hG : HasG w) (hu : usesL[κ]? = some z) (hg : z.2.2 = gt g) (hk : ks[z.1]? = some k) (hh : z.2.1 = 62 ∨ z.2.1 = 44 ∨ z.2.1 = 108 ∨ z.2.1 = 120) (hne : κ ≠ 4 ∧ κ ≠ 5 ∧ κ ≠ 6 ∧ κ ≠ 8 ∧ κ ≠ 29 ∧ κ ≠ 9 ∧ κ ≠ 18 ∧ κ ≠ 26 ∧ κ ≠ 21) (hx : l[i]? = some x) (hκ : x.kind = κ) (hN : HasN w cb nv l) (hT : HasT w cb tb n) :
    Calls Tryz.prog 82 #[.pointer (some ⟨cb, 0, none⟩), .int .i64 (i : Int), kv, sv] w fun e w' => Ans (use (z.1, z.2.1, g) ks) e ∧ Below w.heap.size w w' := by
  obtain ⟨nb, no, nc, rfl, hnb, hnd⟩ := hN.at hx
  have hil : i < l.length := (List.getElem?_eq_some_iff.1 hx).1
  have hil' : (i : Int) < (l.length : Int) := by omega
  have n0 : w.cell? ⟨cb, 0, none⟩ = some (.slice (some ⟨nb, no, none⟩) l.length nc) := hN.1
  have hcb : cb < w.heap.size := World.block_lt_of_cell? _ _ n0
  have hA : ∀ o, Below w.heap.size w (w.alloc o) := fun o => (Below.refl _ _).alloc (Nat.le_refl _) o
  have e0 : ∀ o, (w.alloc o).cell? ⟨cb, 0, none⟩ = some (.slice (some ⟨nb, no, none⟩) l.length nc) := fun o => ((hA o).cell hcb).trans n0
  have q0 : ∀ o, (w.alloc o).cell? ⟨nb, no + i * 8, none⟩ = some (.int .i8 x.kind) := fun o => ((hA o).cell hnb).trans (hnd 0 _ rfl)
  have q1 : ∀ o, (w.alloc o).cell? ⟨nb, no + i * 8 + 1, none⟩ = some (.int .i64 x.kids) := fun o => ((hA o).cell hnb).trans (hnd 1 _ rfl)
  have q2 : ∀ o, (w.alloc o).cell? ⟨nb, no + i * 8 + 2, none⟩ = some (.int .i64 x.n) := fun o => ((hA o).cell hnb).trans (hnd 2 _ rfl)
  have q3 : ∀ o, (w.alloc o).cell? ⟨nb, no + i * 8 + 3, none⟩ = some (.string x.s) := fun o => ((hA o).cell hnb).trans (hnd 3 _ rfl)
  have q4 : ∀ o, (w.alloc o).cell? ⟨nb, no + i * 8 + 4, none⟩ = some (.string x.t) := fun o => ((hA o).cell hnb).trans (hnd 4 _ rfl)
  have q5 : ∀ o, (w.alloc o).cell? ⟨nb, no + i * 8 + 5, none⟩ = some (.string x.u) := fun o => ((hA o).cell hnb).trans (hnd 5 _ rfl)
  have q6 : ∀ o, (w.alloc o).cell? ⟨nb, no + i * 8 + 6, none⟩ = some (.int .i64 x.ln) := fun o => ((hA o).cell hnb).trans (hnd 6 _ rfl)
  have q7 : ∀ o, (w.alloc o).cell? ⟨nb, no + i * 8 + 7, none⟩ = some (.int .i64 x.co) := fun o => ((hA o).cell hnb).trans (hnd 7 _ rfl)
  obtain ⟨w0, hw0⟩ : ∃ w0, w0 = (w.alloc (.cells #[.int .i64 0, .int .i64 0] 98)).alloc (.cells #[.int .i8 x.kind, .int .i64 x.kids, .int .i64 x.n, .string x.s, .string x.t, .string x.u, .int .i64 x.ln, .int .i64 x.co] 72) := ⟨_, rfl⟩
  have hR : Rl w w0 x := by rw [hw0]; exact Rl.made w x
  obtain ⟨R, hRR⟩ : ∃ R, R = use (z.1, z.2.1, g) ks := ⟨_, rfl⟩
  obtain ⟨⟨⟨r0, r1⟩, rz⟩, ⟨d0, d3, d4, d5⟩, -, -⟩ := hR.later (Below.refl _ _)
  have hκ18 : κ < 29 := (List.getElem?_eq_some_iff.1 hu).1
  obtain ⟨u0, u1, u2⟩ := (hG.below hR.below).uses κ _ hu
  have hbo : ∀ o, Below w.heap.size w (w0.alloc o) := fun o => hR.below.alloc (by have := hR.size; omega) o
  have hh0 : ((z.2.1.toNat : Int) != 0) = true := by rcases hh with h | h | h | h <;> rw [h] <;> rfl
  have HC : ∀ o, Calls Tryz.prog 147 #[.pointer (some ⟨cb, 0, none⟩), .agg #[.int .i64 (z.1 : Int), .int .u8 (z.2.1.toNat : Int), .string (S z.2.2)], kv] (w0.alloc o) fun e w' => Ans R e ∧ Below (w0.alloc o).heap.size (w0.alloc o) w' := fun o => by
    rw [hg, hRR]
    exact use_any _ cb tb n z.1 g z.2.1 kv ks k (hT.below hcb (hbo o)) (hK.below (hbo o)) hk hh (hG.below (hbo o)).m
  rw [← hRR]
  have HRR : Aside _ := hRR
  clear hnd n0 hA hRR hG hT hK hN hbo hh hg hk hu
  go_enter Tryz.func82, Tryz.ntmps82
  go_upto_region 2 with fail
  rw [hκ] at hw0 d0
  rw [← hw0]
  clear hw0 e0 q0 q1 q2 q3 q4 q5 q6 q7
  obtain ⟨f4, f5, f6, f8, f29, f9, f18, f26, f21⟩ := hne
  have k29 : (κ : Int) < 29 := by omega
  have HC := HC (.cells #[.int .i64 (z.1 : Int), .int .u8 (z.2.1.toNat : Int), .string (S z.2.2)] 213)
  generalize (z.2.1.toNat : Int) = hn at *
  go_wp2_with fail
  refine HC.mono ?_
  rintro e w1 ⟨hans, hB1⟩
  obtain ⟨s, c, p, rfl⟩ := hans.form
  have HA : Aside _ := hans
  obtain ⟨⟨⟨m0, m1⟩, mz⟩, -, -, hbf⟩ := hR.later (below_unalloc hB1)
  have HBF : Aside _ := hbf
  clear u0 u1 u2 hbf hans HC hR r0 r1 rz d0 d3 d4 d5
  clear hB1
  go_wp2_with fail
  try simp only [Exit.inBlock, Exit.then]
  refine bodyPost_ret (v := .tuple #[.string s, .agg #[.int .i64 c, .int .i64 p]]) (by simp [results, Tryz.results82, go_sem, m0, m1]) rfl ?_
  exact ⟨HA.out, HBF.out _ _⟩
end Go.Proofs.YthdlfeejeboboaaGreatDoor
namespace Go.Proofs.YthdlfeejeboboaaGreatDoor
open Go.RowKit Ck
open T3.Tp (Ty enc cns met)
set_option maxRecDepth 100000
set_option linter.unusedSimpArgs false
set_option maxHeartbeats 8000000 in
theorem rule_if (w : World) (cb tb n i : Nat) (nv kv sv : Value) (l : List Tr.Nd) (x : Tr.Nd) (c a b : Nat × Ty) (hK : Kds w tb n kv [c, a, b]) (hx : l[i]? = some x) (hκ : x.kind = 9) (hN : HasN w cb nv l) (hT : HasT w cb tb n) :
    Calls Tryz.prog 82 #[.pointer (some ⟨cb, 0, none⟩), .int .i64 (i : Int), kv, sv] w fun e w' => Ans (if cns c.2 .tb then meetK i a.2 b else .error (23, c.1)) e ∧ Below w.heap.size w w' := by
  obtain ⟨nb, no, nc, rfl, hnb, hnd⟩ := hN.at hx
  have hil : i < l.length := (List.getElem?_eq_some_iff.1 hx).1
  have hil' : (i : Int) < (l.length : Int) := by omega
  have n0 : w.cell? ⟨cb, 0, none⟩ = some (.slice (some ⟨nb, no, none⟩) l.length nc) := hN.1
  have hcb : cb < w.heap.size := World.block_lt_of_cell? _ _ n0
  have hA : ∀ o, Below w.heap.size w (w.alloc o) := fun o => (Below.refl _ _).alloc (Nat.le_refl _) o
  have e0 : ∀ o, (w.alloc o).cell? ⟨cb, 0, none⟩ = some (.slice (some ⟨nb, no, none⟩) l.length nc) := fun o => ((hA o).cell hcb).trans n0
  have q0 : ∀ o, (w.alloc o).cell? ⟨nb, no + i * 8, none⟩ = some (.int .i8 x.kind) := fun o => ((hA o).cell hnb).trans (hnd 0 _ rfl)
  have q1 : ∀ o, (w.alloc o).cell? ⟨nb, no + i * 8 + 1, none⟩ = some (.int .i64 x.kids) := fun o => ((hA o).cell hnb).trans (hnd 1 _ rfl)
  have q2 : ∀ o, (w.alloc o).cell? ⟨nb, no + i * 8 + 2, none⟩ = some (.int .i64 x.n) := fun o => ((hA o).cell hnb).trans (hnd 2 _ rfl)
  have q3 : ∀ o, (w.alloc o).cell? ⟨nb, no + i * 8 + 3, none⟩ = some (.string x.s) := fun o => ((hA o).cell hnb).trans (hnd 3 _ rfl)
  have q4 : ∀ o, (w.alloc o).cell? ⟨nb, no + i * 8 + 4, none⟩ = some (.string x.t) := fun o => ((hA o).cell hnb).trans (hnd 4 _ rfl)
  have q5 : ∀ o, (w.alloc o).cell? ⟨nb, no + i * 8 + 5, none⟩ = some (.string x.u) := fun o => ((hA o).cell hnb).trans (hnd 5 _ rfl)
  have q6 : ∀ o, (w.alloc o).cell? ⟨nb, no + i * 8 + 6, none⟩ = some (.int .i64 x.ln) := fun o => ((hA o).cell hnb).trans (hnd 6 _ rfl)
  have q7 : ∀ o, (w.alloc o).cell? ⟨nb, no + i * 8 + 7, none⟩ = some (.int .i64 x.co) := fun o => ((hA o).cell hnb).trans (hnd 7 _ rfl)
  obtain ⟨w0, hw0⟩ : ∃ w0, w0 = (w.alloc (.cells #[.int .i64 0, .int .i64 0] 98)).alloc (.cells #[.int .i8 x.kind, .int .i64 x.kids, .int .i64 x.n, .string x.s, .string x.t, .string x.u, .int .i64 x.ln, .int .i64 x.co] 72) := ⟨_, rfl⟩
  have hR : Rl w w0 x := by rw [hw0]; exact Rl.made w x
  obtain ⟨R, hRR⟩ : ∃ R, R = if cns c.2 .tb then meetK i a.2 b else .error (23, c.1) := ⟨_, rfl⟩
  obtain ⟨⟨⟨r0, r1⟩, rz⟩, ⟨d0, d3, d4, d5⟩, -, -⟩ := hR.later (Below.refl _ _)
  have HC : Calls Tryz.prog 144 #[.pointer (some ⟨cb, 0, none⟩), .int .i64 (i : Int), kv] w0 fun e w' => Ans R e ∧ Below w0.heap.size w0 w' := by
    rw [hRR]
    exact choose_any _ cb tb n i kv c a b (hT.below hcb hR.below) (hK.below hR.below)
  rw [← hRR]
  have HRR : Aside _ := hRR
  clear hnd n0 hA hRR hT hK hN
  go_enter Tryz.func82, Tryz.ntmps82
  go_upto_region 2 with fail
  rw [hκ] at hw0 d0
  rw [← hw0]
  clear hw0 e0 q0 q1 q2 q3 q4 q5 q6 q7
  go_wp2_with fail
  refine HC.mono ?_
  rintro e w1 ⟨hans, hB1⟩
  obtain ⟨s, c, p, rfl⟩ := hans.form
  have HA : Aside _ := hans
  obtain ⟨⟨⟨m0, m1⟩, mz⟩, -, -, hbf⟩ := hR.later (hB1)
  have HBF : Aside _ := hbf
  clear hbf hans HC hR r0 r1 rz d0 d3 d4 d5
  clear hB1
  go_wp2_with fail
  try simp only [Exit.inBlock, Exit.then]
  refine bodyPost_ret (v := .tuple #[.string s, .agg #[.int .i64 c, .int .i64 p]]) (by simp [results, Tryz.results82, go_sem, m0, m1]) rfl ?_
  exact ⟨HA.out, HBF.out _ _⟩
set_option maxHeartbeats 8000000 in
theorem rule_list (w : World) (cb tb n i : Nat) (nv kv sv : Value) (l : List Tr.Nd) (x : Tr.Nd) (ks : List (Nat × Ty)) (hK : Kds w tb n kv ks) (hx : l[i]? = some x) (hκ : x.kind = 21) (hN : HasN w cb nv l) (hT : HasT w cb tb n) :
    Calls Tryz.prog 82 #[.pointer (some ⟨cb, 0, none⟩), .int .i64 (i : Int), kv, sv] w fun e w' => Ans (lst i .tq ks) e ∧ Below w.heap.size w w' := by
  obtain ⟨nb, no, nc, rfl, hnb, hnd⟩ := hN.at hx
  have hil : i < l.length := (List.getElem?_eq_some_iff.1 hx).1
  have hil' : (i : Int) < (l.length : Int) := by omega
  have n0 : w.cell? ⟨cb, 0, none⟩ = some (.slice (some ⟨nb, no, none⟩) l.length nc) := hN.1
  have hcb : cb < w.heap.size := World.block_lt_of_cell? _ _ n0
  have hA : ∀ o, Below w.heap.size w (w.alloc o) := fun o => (Below.refl _ _).alloc (Nat.le_refl _) o
  have e0 : ∀ o, (w.alloc o).cell? ⟨cb, 0, none⟩ = some (.slice (some ⟨nb, no, none⟩) l.length nc) := fun o => ((hA o).cell hcb).trans n0
  have q0 : ∀ o, (w.alloc o).cell? ⟨nb, no + i * 8, none⟩ = some (.int .i8 x.kind) := fun o => ((hA o).cell hnb).trans (hnd 0 _ rfl)
  have q1 : ∀ o, (w.alloc o).cell? ⟨nb, no + i * 8 + 1, none⟩ = some (.int .i64 x.kids) := fun o => ((hA o).cell hnb).trans (hnd 1 _ rfl)
  have q2 : ∀ o, (w.alloc o).cell? ⟨nb, no + i * 8 + 2, none⟩ = some (.int .i64 x.n) := fun o => ((hA o).cell hnb).trans (hnd 2 _ rfl)
  have q3 : ∀ o, (w.alloc o).cell? ⟨nb, no + i * 8 + 3, none⟩ = some (.string x.s) := fun o => ((hA o).cell hnb).trans (hnd 3 _ rfl)
  have q4 : ∀ o, (w.alloc o).cell? ⟨nb, no + i * 8 + 4, none⟩ = some (.string x.t) := fun o => ((hA o).cell hnb).trans (hnd 4 _ rfl)
  have q5 : ∀ o, (w.alloc o).cell? ⟨nb, no + i * 8 + 5, none⟩ = some (.string x.u) := fun o => ((hA o).cell hnb).trans (hnd 5 _ rfl)
  have q6 : ∀ o, (w.alloc o).cell? ⟨nb, no + i * 8 + 6, none⟩ = some (.int .i64 x.ln) := fun o => ((hA o).cell hnb).trans (hnd 6 _ rfl)
  have q7 : ∀ o, (w.alloc o).cell? ⟨nb, no + i * 8 + 7, none⟩ = some (.int .i64 x.co) := fun o => ((hA o).cell hnb).trans (hnd 7 _ rfl)
  obtain ⟨w0, hw0⟩ : ∃ w0, w0 = (w.alloc (.cells #[.int .i64 0, .int .i64 0] 98)).alloc (.cells #[.int .i8 x.kind, .int .i64 x.kids, .int .i64 x.n, .string x.s, .string x.t, .string x.u, .int .i64 x.ln, .int .i64 x.co] 72) := ⟨_, rfl⟩
  have hR : Rl w w0 x := by rw [hw0]; exact Rl.made w x
  obtain ⟨R, hRR⟩ : ∃ R, R = lst i .tq ks := ⟨_, rfl⟩
  obtain ⟨⟨⟨r0, r1⟩, rz⟩, ⟨d0, d3, d4, d5⟩, -, -⟩ := hR.later (Below.refl _ _)
  have HC : Calls Tryz.prog 146 #[.pointer (some ⟨cb, 0, none⟩), .int .i64 (i : Int), kv] w0 fun e w' => Ans R e ∧ Below w0.heap.size w0 w' := by
    rw [hRR]
    exact list_any _ cb tb n i kv ks (hT.below hcb hR.below) (hK.below hR.below)
  rw [← hRR]
  have HRR : Aside _ := hRR
  clear hnd n0 hA hRR hT hK hN
  go_enter Tryz.func82, Tryz.ntmps82
  go_upto_region 2 with fail
  rw [hκ] at hw0 d0
  rw [← hw0]
  clear hw0 e0 q0 q1 q2 q3 q4 q5 q6 q7
  go_wp2_with fail
  refine HC.mono ?_
  rintro e w1 ⟨hans, hB1⟩
  obtain ⟨s, c, p, rfl⟩ := hans.form
  have HA : Aside _ := hans
  obtain ⟨⟨⟨m0, m1⟩, mz⟩, -, -, hbf⟩ := hR.later (hB1)
  have HBF : Aside _ := hbf
  clear hbf hans HC hR r0 r1 rz d0 d3 d4 d5
  clear hB1
  go_wp2_with fail
  try simp only [Exit.inBlock, Exit.then]
  refine bodyPost_ret (v := .tuple #[.string s, .agg #[.int .i64 c, .int .i64 p]]) (by simp [results, Tryz.results82, go_sem, m0, m1]) rfl ?_
  exact ⟨HA.out, HBF.out _ _⟩
end Go.Proofs.YthdlfeejeboboaaGreatDoor
namespace Go.Proofs.YthdlfeejeboboaaGreatDoor
open Go.RowKit Ck
open T3.Tp (Ty enc cns met)
set_option maxRecDepth 100000
set_option linter.unusedSimpArgs false
theorem cell_set2 {W : World} {a b o : Nat} {p q : Value} (h : b ≠ a) : ((W.setCell ⟨a, 0, none⟩ p).setCell ⟨a, 1, none⟩ q).cell? ⟨b, o, none⟩ = W.cell? ⟨b, o, none⟩ :=
  World.cell?_of_block (by rw [Below.heap_setCell _ _ _ _ h, Below.heap_setCell _ _ _ _ h])
set_option maxHeartbeats 8000000 in
theorem rule_var (w : World) (cb tb n i : Nat) (nv kv sv : Value) (l : List Tr.Nd) (x : Tr.Nd) (env : Env) (hS : Scope cb tb w sv env) (hs : x.s.size ≤ maxLen) (hx : l[i]? = some x) (hκ : x.kind = 4) (hN : HasN w cb nv l) (_hT : HasT w cb tb n) :
    Calls Tryz.prog 82 #[.pointer (some ⟨cb, 0, none⟩), .int .i64 (i : Int), kv, sv] w fun e w' => Ans (match Ck.look env (Tr.nm x) with | none => .error (22, i) | some t => .ok t) e ∧ Below w.heap.size w w' := by
  obtain ⟨nb, no, nc, rfl, hnb, hnd⟩ := hN.at hx
  have hil : i < l.length := (List.getElem?_eq_some_iff.1 hx).1
  have hil' : (i : Int) < (l.length : Int) := by omega
  have n0 : w.cell? ⟨cb, 0, none⟩ = some (.slice (some ⟨nb, no, none⟩) l.length nc) := hN.1
  have hcb : cb < w.heap.size := World.block_lt_of_cell? _ _ n0
  have hA : ∀ o, Below w.heap.size w (w.alloc o) := fun o => (Below.refl _ _).alloc (Nat.le_refl _) o
  have e0 : ∀ o, (w.alloc o).cell? ⟨cb, 0, none⟩ = some (.slice (some ⟨nb, no, none⟩) l.length nc) := fun o => ((hA o).cell hcb).trans n0
  have q0 : ∀ o, (w.alloc o).cell? ⟨nb, no + i * 8, none⟩ = some (.int .i8 x.kind) := fun o => ((hA o).cell hnb).trans (hnd 0 _ rfl)
  have q1 : ∀ o, (w.alloc o).cell? ⟨nb, no + i * 8 + 1, none⟩ = some (.int .i64 x.kids) := fun o => ((hA o).cell hnb).trans (hnd 1 _ rfl)
  have q2 : ∀ o, (w.alloc o).cell? ⟨nb, no + i * 8 + 2, none⟩ = some (.int .i64 x.n) := fun o => ((hA o).cell hnb).trans (hnd 2 _ rfl)
  have q3 : ∀ o, (w.alloc o).cell? ⟨nb, no + i * 8 + 3, none⟩ = some (.string x.s) := fun o => ((hA o).cell hnb).trans (hnd 3 _ rfl)
  have q4 : ∀ o, (w.alloc o).cell? ⟨nb, no + i * 8 + 4, none⟩ = some (.string x.t) := fun o => ((hA o).cell hnb).trans (hnd 4 _ rfl)
  have q5 : ∀ o, (w.alloc o).cell? ⟨nb, no + i * 8 + 5, none⟩ = some (.string x.u) := fun o => ((hA o).cell hnb).trans (hnd 5 _ rfl)
  have q6 : ∀ o, (w.alloc o).cell? ⟨nb, no + i * 8 + 6, none⟩ = some (.int .i64 x.ln) := fun o => ((hA o).cell hnb).trans (hnd 6 _ rfl)
  have q7 : ∀ o, (w.alloc o).cell? ⟨nb, no + i * 8 + 7, none⟩ = some (.int .i64 x.co) := fun o => ((hA o).cell hnb).trans (hnd 7 _ rfl)
  obtain ⟨w0, hw0⟩ : ∃ w0, w0 = (w.alloc (.cells #[.int .i64 0, .int .i64 0] 98)).alloc (.cells #[.int .i8 x.kind, .int .i64 x.kids, .int .i64 x.n, .string x.s, .string x.t, .string x.u, .int .i64 x.ln, .int .i64 x.co] 72) := ⟨_, rfl⟩
  have hR : Rl w w0 x := by rw [hw0]; exact Rl.made w x
  obtain ⟨R, hRR⟩ : ∃ R : Rs Ty, R = match Ck.look env (Tr.nm x) with | none => .error (22, i) | some t => .ok t := ⟨_, rfl⟩
  obtain ⟨⟨⟨r0, r1⟩, rz⟩, ⟨d0, d3, d4, d5⟩, -, -⟩ := hR.later (Below.refl _ _)
  obtain ⟨G, caps, rfl, hE, hC⟩ := hS
  have HBF : Aside _ := (hR.later (Below.refl _ _)).2.2.2
  have HC := hC w0 (below_two hR.below cb tb) x.s hs
  rw [← hRR]
  have HRR : Aside _ := hRR
  clear hnd n0 hA hRR hN hC
  go_enter Tryz.func82, Tryz.ntmps82
  go_upto_region 2 with fail
  rw [hκ] at hw0 d0
  rw [← hw0]
  clear hw0 e0 q0 q1 q2 q3 q4 q5 q6 q7
  cases hl : Ck.look env (Tr.nm x) with
  | none =>
    have e1 : lookB env x.s = false := by unfold lookB; have h : Ck.look env x.s.data.toList = none := hl; rw [h]; rfl
    rw [e1] at HC
    have HR2 : Aside (R = .error (22, i)) := by show _ = _; rw [HRR.out, hl]
    clear hR HRR
    generalize lookS env x.s = sl at *
    go_wp2_with fail
    refine HC.mono ?_
    rintro e w1 ⟨rfl, hw1⟩
    replace hw1 := hw1.symm
    subst hw1
    go_wp2_with fail
    try simp only [Exit.inBlock, Exit.then]
    refine bodyPost_ret (v := .tuple #[.string ⟨#[]⟩, .agg #[.int .i64 22, .int .i64 i]]) (by simp [results, Tryz.results82, go_sem, r0, r1]) rfl ?_
    exact ⟨by rw [HR2.out]; exact ⟨by simp, _, rfl⟩, HBF.out _ _⟩
  | some t =>
    have e1 : lookB env x.s = true := by unfold lookB; have h : Ck.look env x.s.data.toList = some t := hl; rw [h]; rfl
    have e2 : lookS env x.s = S (enc t) := by unfold lookS; have h : Ck.look env x.s.data.toList = some t := hl; rw [h]
    rw [e1, e2] at HC
    have HR2 : Aside (R = .ok t) := by show _ = _; rw [HRR.out, hl]
    clear hR HRR e2
    go_wp2_with fail
    refine HC.mono ?_
    rintro e w1 ⟨rfl, hw1⟩
    replace hw1 := hw1.symm
    subst hw1
    go_wp2_with fail
    try simp only [Exit.inBlock, Exit.then]
    refine bodyPost_ret (v := .tuple #[.string (S (enc t)), .agg #[.int .i64 0, .int .i64 0]]) (by simp [results, Tryz.results82, go_sem, r0, r1]) rfl ?_
    exact ⟨by rw [HR2.out]; exact ⟨_, rfl⟩, HBF.out _ _⟩
end Go.Proofs.YthdlfeejeboboaaGreatDoor
namespace Go.Proofs.YthdlfeejeboboaaGreatDoor
open Go.RowKit Ck
open T3.Tp (Ty enc cns met)
set_option maxRecDepth 100000
set_option linter.unusedSimpArgs false
set_option maxHeartbeats 8000000 in
theorem rule_fn (w : World) (cb tb n i : Nat) (nv kv sv : Value) (l : List Tr.Nd) (x : Tr.Nd) (k : Nat × Ty) (hK : Kds w tb n kv [k]) (hin : i < n) (hti : w.cell? ⟨tb, i, none⟩ = some (.string (S (enc (.tf (wr x.t) (wr x.u)))))) (hU : (if x.u.size = 0 then (⟨#[63]⟩ : ByteArray) else x.u) = S (enc (wr x.u))) (hU64 : (enc (wr x.u)).length ≤ 64) (hx : l[i]? = some x) (hκ : x.kind = 5) (hN : HasN w cb nv l) (hT : HasT w cb tb n) :
    Calls Tryz.prog 82 #[.pointer (some ⟨cb, 0, none⟩), .int .i64 (i : Int), kv, sv] w fun e w' => Ans (if cns k.2 (wr x.u) then .ok (.tf (wr x.t) (wr x.u)) else .error (23, k.1)) e ∧ Below w.heap.size w w' := by
  obtain ⟨nb, no, nc, rfl, hnb, hnd⟩ := hN.at hx
  have hil : i < l.length := (List.getElem?_eq_some_iff.1 hx).1
  have hil' : (i : Int) < (l.length : Int) := by omega
  have n0 : w.cell? ⟨cb, 0, none⟩ = some (.slice (some ⟨nb, no, none⟩) l.length nc) := hN.1
  have hcb : cb < w.heap.size := World.block_lt_of_cell? _ _ n0
  have hA : ∀ o, Below w.heap.size w (w.alloc o) := fun o => (Below.refl _ _).alloc (Nat.le_refl _) o
  have e0 : ∀ o, (w.alloc o).cell? ⟨cb, 0, none⟩ = some (.slice (some ⟨nb, no, none⟩) l.length nc) := fun o => ((hA o).cell hcb).trans n0
  have q0 : ∀ o, (w.alloc o).cell? ⟨nb, no + i * 8, none⟩ = some (.int .i8 x.kind) := fun o => ((hA o).cell hnb).trans (hnd 0 _ rfl)
  have q1 : ∀ o, (w.alloc o).cell? ⟨nb, no + i * 8 + 1, none⟩ = some (.int .i64 x.kids) := fun o => ((hA o).cell hnb).trans (hnd 1 _ rfl)
  have q2 : ∀ o, (w.alloc o).cell? ⟨nb, no + i * 8 + 2, none⟩ = some (.int .i64 x.n) := fun o => ((hA o).cell hnb).trans (hnd 2 _ rfl)
  have q3 : ∀ o, (w.alloc o).cell? ⟨nb, no + i * 8 + 3, none⟩ = some (.string x.s) := fun o => ((hA o).cell hnb).trans (hnd 3 _ rfl)
  have q4 : ∀ o, (w.alloc o).cell? ⟨nb, no + i * 8 + 4, none⟩ = some (.string x.t) := fun o => ((hA o).cell hnb).trans (hnd 4 _ rfl)
  have q5 : ∀ o, (w.alloc o).cell? ⟨nb, no + i * 8 + 5, none⟩ = some (.string x.u) := fun o => ((hA o).cell hnb).trans (hnd 5 _ rfl)
  have q6 : ∀ o, (w.alloc o).cell? ⟨nb, no + i * 8 + 6, none⟩ = some (.int .i64 x.ln) := fun o => ((hA o).cell hnb).trans (hnd 6 _ rfl)
  have q7 : ∀ o, (w.alloc o).cell? ⟨nb, no + i * 8 + 7, none⟩ = some (.int .i64 x.co) := fun o => ((hA o).cell hnb).trans (hnd 7 _ rfl)
  obtain ⟨w0, hw0⟩ : ∃ w0, w0 = (w.alloc (.cells #[.int .i64 0, .int .i64 0] 98)).alloc (.cells #[.int .i8 x.kind, .int .i64 x.kids, .int .i64 x.n, .string x.s, .string x.t, .string x.u, .int .i64 x.ln, .int .i64 x.co] 72) := ⟨_, rfl⟩
  have hR : Rl w w0 x := by rw [hw0]; exact Rl.made w x
  obtain ⟨R, hRR⟩ : ∃ R : Rs Ty, R = if cns k.2 (wr x.u) then .ok (.tf (wr x.t) (wr x.u)) else .error (23, k.1) := ⟨_, rfl⟩
  obtain ⟨⟨⟨r0, r1⟩, rz⟩, ⟨d0, d3, d4, d5⟩, -, -⟩ := hR.later (Below.refl _ _)
  obtain ⟨kb, rfl, g0, g1, g2, g3⟩ := hK.at' 0 k rfl
  have hkb : kb < w.heap.size := World.block_lt_of_cell? _ _ g0
  have htb : tb < w.heap.size := World.block_lt_of_cell? _ _ g2
  have hk0 : (k.1 : Int) < (n : Int) := by omega
  have hin0 : (i : Int) < (n : Int) := by omega
  obtain ⟨X, Y, hXY⟩ : ∃ X Y : Int, (cns k.2 (wr x.u) = true ∧ X = 0 ∧ Y = 0) ∨ (cns k.2 (wr x.u) = false ∧ X = 23 ∧ Y = (k.1 : Nat)) := by
    cases cns k.2 (wr x.u)
    · exact ⟨23, (k.1 : Nat), .inr ⟨rfl, rfl, rfl⟩⟩
    · exact ⟨0, 0, .inl ⟨rfl, rfl, rfl⟩⟩
  have HAns : Aside (Ans R (.returned (.tuple #[.string (S (enc (.tf (wr x.t) (wr x.u)))), .agg #[.int .i64 X, .int .i64 Y]]))) := by
    show Ans _ _
    rw [hRR]
    rcases hXY with ⟨h, rfl, rfl⟩ | ⟨h, rfl, rfl⟩
    · simp only [h, if_true]; exact ⟨_, rfl⟩
    · simp only [h, Bool.false_eq_true, if_false]; exact ⟨by simp, _, rfl⟩
  have HS : Aside (∀ W, Below w0.heap.size w0 W → W.cell? ⟨cb, 1, none⟩ = some (.slice (some ⟨tb, 0, none⟩) n n) ∧ W.cell? ⟨tb, i, none⟩ = some (.string (S (enc (.tf (wr x.t) (wr x.u))))) ∧ W.cell? ⟨kb, 0, none⟩ = some (.int .i64 (k.1 : Int)) ∧ W.cell? ⟨w.heap.size + 1, 5, none⟩ = some (.string x.u)) := fun W hB => by
    have hbw := hR.below.trans (hB.mono (by have := hR.size; omega))
    obtain ⟨-, ⟨-, -, y4, y5⟩, -, -⟩ := hR.later hB
    exact ⟨(hT.below hcb hbw), ((hbw.cell (p := ⟨tb, i, none⟩) htb).trans hti), ((hbw.cell (p := ⟨kb, 0, none⟩) hkb).trans g0), y5⟩
  have HA : ∀ W, Below w0.heap.size w0 W → Calls Tryz.prog 143 #[.pointer (some ⟨cb, 0, none⟩), .int .i64 (k.1 : Int), .string (if x.u.size = 0 then (⟨#[63]⟩ : ByteArray) else x.u), .agg #[.int .i64 23, .int .i64 (k.1 : Nat)]] W fun e w' => e = .returned (.agg #[.int .i64 X, .int .i64 Y]) ∧ Below W.heap.size W w' := by
    intro W hB0
    have hB := hR.below.trans (hB0.mono (by have := hR.size; omega))
    rw [hU]
    refine (ask_any W cb tb n k.1 k.2 (wr x.u) 23 ((k.1 : Nat) : Int) (hT.below hcb hB) g1 ((hB.cell (p := ⟨tb, k.1, none⟩) htb).trans g2) g3 hU64).mono ?_
    rintro e w' ⟨rfl, hB'⟩
    refine ⟨?_, hB'⟩
    rcases hXY with ⟨h, rfl, rfl⟩ | ⟨h, rfl, rfl⟩
    · rw [h]; rfl
    · rw [h]; rfl
  have HL : Aside (∀ W, Below w0.heap.size w0 W → _) := fun W hB => hR.later hB
  have hS0 := HS.out w0 (Below.refl _ _)
  have HS2 : Aside (∀ W : World, (W.cell? ⟨cb, 1, none⟩ = some (.slice (some ⟨tb, 0, none⟩) n n) ∧ W.cell? ⟨tb, i, none⟩ = some (.string (S (enc (.tf (wr x.t) (wr x.u))))) ∧ W.cell? ⟨kb, 0, none⟩ = some (.int .i64 (k.1 : Int)) ∧ W.cell? ⟨w.heap.size + 1, 5, none⟩ = some (.string x.u)) → ∀ p q : Value, ((W.setCell ⟨w.heap.size, 0, none⟩ p).setCell ⟨w.heap.size, 1, none⟩ q).cell? ⟨cb, 1, none⟩ = some (.slice (some ⟨tb, 0, none⟩) n n) ∧ ((W.setCell ⟨w.heap.size, 0, none⟩ p).setCell ⟨w.heap.size, 1, none⟩ q).cell? ⟨tb, i, none⟩ = some (.string (S (enc (.tf (wr x.t) (wr x.u))))) ∧ ((W.setCell ⟨w.heap.size, 0, none⟩ p).setCell ⟨w.heap.size, 1, none⟩ q).cell? ⟨kb, 0, none⟩ = some (.int .i64 (k.1 : Int)) ∧ ((W.setCell ⟨w.heap.size, 0, none⟩ p).setCell ⟨w.heap.size, 1, none⟩ q).cell? ⟨w.heap.size + 1, 5, none⟩ = some (.string x.u)) := fun W h p q => ⟨(cell_set2 (by omega)).trans h.1, (cell_set2 (by omega)).trans h.2.1, (cell_set2 (by omega)).trans h.2.2.1, (cell_set2 (by omega)).trans h.2.2.2⟩
  have HW := written_any x.u
  generalize hsu : (if x.u.size = 0 then (⟨#[63]⟩ : ByteArray) else x.u) = su at *
  rw [← hRR]
  have HRR : Aside _ := hRR
  clear hnd n0 hA hRR hT hK hN hU
  go_enter Tryz.func82, Tryz.ntmps82
  go_upto_region 2 with fail
  rw [hκ] at hw0 d0
  rw [← hw0]
  clear hw0 e0 q0 q1 q2 q3 q4 q5 q6 q7
  clear hR hXY HRR
  go_upto_region 14 with fail
  go_region_held (fun W => W.cell? ⟨cb, 1, none⟩ = some (.slice (some ⟨tb, 0, none⟩) n n) ∧ W.cell? ⟨tb, i, none⟩ = some (.string (S (enc (.tf (wr x.t) (wr x.u))))) ∧ W.cell? ⟨kb, 0, none⟩ = some (.int .i64 (k.1 : Int)) ∧ W.cell? ⟨w.heap.size + 1, 5, none⟩ = some (.string x.u)) (first | exact hS1 | exact hS0 | exact hS2 _ _ | go_keep) (first | (go_at_call 140; refine (HW _).mono ?_; rintro e w9 ⟨rfl, hw9⟩; replace hw9 := hw9.symm; subst hw9) | (go_at_call 143; refine (HA _ (by first | exact below_dr (Below.refl _ _) | exact Below.refl _ _)).mono ?_; rintro e w1 ⟨rfl, hB1⟩; have hb1 : Below w0.heap.size w0 w1 := ⟨hB1.os, hB1.tape, hB1.output, hB1.size, hB1.block⟩; have hS1 := HS.out w1 hb1; have hS2 := HS2.out w1 hS1; obtain ⟨⟨⟨m0, m1⟩, mz⟩, -, -, hbf⟩ := HL.out w1 hb1))
  all_goals
    go_wp2_with fail
    try simp only [Exit.inBlock, Exit.then]
    refine bodyPost_ret (v := .tuple #[.string (S (enc (.tf (wr x.t) (wr x.u)))), .agg #[.int .i64 X, .int .i64 Y]]) (by simp [results, Tryz.results82, go_sem, m0, m1]) rfl ?_
    exact ⟨HAns.out, hbf _ _⟩
set_option maxHeartbeats 8000000 in
theorem rule_rec (w : World) (cb tb n i : Nat) (nv kv sv : Value) (l : List Tr.Nd) (x : Tr.Nd) (k : Nat × Ty) (hK : Kds w tb n kv [k]) (hin : i < n) (hti : w.cell? ⟨tb, i, none⟩ = some (.string (S (enc (.tf (wr x.t) (wr x.u)))))) (hU : (if x.u.size = 0 then (⟨#[63]⟩ : ByteArray) else x.u) = S (enc (wr x.u))) (hU64 : (enc (wr x.u)).length ≤ 64) (hx : l[i]? = some x) (hκ : x.kind = 6) (hN : HasN w cb nv l) (hT : HasT w cb tb n) :
    Calls Tryz.prog 82 #[.pointer (some ⟨cb, 0, none⟩), .int .i64 (i : Int), kv, sv] w fun e w' => Ans (if cns k.2 (wr x.u) then .ok (.tf (wr x.t) (wr x.u)) else .error (23, k.1)) e ∧ Below w.heap.size w w' := by
  obtain ⟨nb, no, nc, rfl, hnb, hnd⟩ := hN.at hx
  have hil : i < l.length := (List.getElem?_eq_some_iff.1 hx).1
  have hil' : (i : Int) < (l.length : Int) := by omega
  have n0 : w.cell? ⟨cb, 0, none⟩ = some (.slice (some ⟨nb, no, none⟩) l.length nc) := hN.1
  have hcb : cb < w.heap.size := World.block_lt_of_cell? _ _ n0
  have hA : ∀ o, Below w.heap.size w (w.alloc o) := fun o => (Below.refl _ _).alloc (Nat.le_refl _) o
  have e0 : ∀ o, (w.alloc o).cell? ⟨cb, 0, none⟩ = some (.slice (some ⟨nb, no, none⟩) l.length nc) := fun o => ((hA o).cell hcb).trans n0
  have q0 : ∀ o, (w.alloc o).cell? ⟨nb, no + i * 8, none⟩ = some (.int .i8 x.kind) := fun o => ((hA o).cell hnb).trans (hnd 0 _ rfl)
  have q1 : ∀ o, (w.alloc o).cell? ⟨nb, no + i * 8 + 1, none⟩ = some (.int .i64 x.kids) := fun o => ((hA o).cell hnb).trans (hnd 1 _ rfl)
  have q2 : ∀ o, (w.alloc o).cell? ⟨nb, no + i * 8 + 2, none⟩ = some (.int .i64 x.n) := fun o => ((hA o).cell hnb).trans (hnd 2 _ rfl)
  have q3 : ∀ o, (w.alloc o).cell? ⟨nb, no + i * 8 + 3, none⟩ = some (.string x.s) := fun o => ((hA o).cell hnb).trans (hnd 3 _ rfl)
  have q4 : ∀ o, (w.alloc o).cell? ⟨nb, no + i * 8 + 4, none⟩ = some (.string x.t) := fun o => ((hA o).cell hnb).trans (hnd 4 _ rfl)
  have q5 : ∀ o, (w.alloc o).cell? ⟨nb, no + i * 8 + 5, none⟩ = some (.string x.u) := fun o => ((hA o).cell hnb).trans (hnd 5 _ rfl)
  have q6 : ∀ o, (w.alloc o).cell? ⟨nb, no + i * 8 + 6, none⟩ = some (.int .i64 x.ln) := fun o => ((hA o).cell hnb).trans (hnd 6 _ rfl)
  have q7 : ∀ o, (w.alloc o).cell? ⟨nb, no + i * 8 + 7, none⟩ = some (.int .i64 x.co) := fun o => ((hA o).cell hnb).trans (hnd 7 _ rfl)
  obtain ⟨w0, hw0⟩ : ∃ w0, w0 = (w.alloc (.cells #[.int .i64 0, .int .i64 0] 98)).alloc (.cells #[.int .i8 x.kind, .int .i64 x.kids, .int .i64 x.n, .string x.s, .string x.t, .string x.u, .int .i64 x.ln, .int .i64 x.co] 72) := ⟨_, rfl⟩
  have hR : Rl w w0 x := by rw [hw0]; exact Rl.made w x
  obtain ⟨R, hRR⟩ : ∃ R : Rs Ty, R = if cns k.2 (wr x.u) then .ok (.tf (wr x.t) (wr x.u)) else .error (23, k.1) := ⟨_, rfl⟩
  obtain ⟨⟨⟨r0, r1⟩, rz⟩, ⟨d0, d3, d4, d5⟩, -, -⟩ := hR.later (Below.refl _ _)
  obtain ⟨kb, rfl, g0, g1, g2, g3⟩ := hK.at' 0 k rfl
  have hkb : kb < w.heap.size := World.block_lt_of_cell? _ _ g0
  have htb : tb < w.heap.size := World.block_lt_of_cell? _ _ g2
  have hk0 : (k.1 : Int) < (n : Int) := by omega
  have hin0 : (i : Int) < (n : Int) := by omega
  obtain ⟨X, Y, hXY⟩ : ∃ X Y : Int, (cns k.2 (wr x.u) = true ∧ X = 0 ∧ Y = 0) ∨ (cns k.2 (wr x.u) = false ∧ X = 23 ∧ Y = (k.1 : Nat)) := by
    cases cns k.2 (wr x.u)
    · exact ⟨23, (k.1 : Nat), .inr ⟨rfl, rfl, rfl⟩⟩
    · exact ⟨0, 0, .inl ⟨rfl, rfl, rfl⟩⟩
  have HAns : Aside (Ans R (.returned (.tuple #[.string (S (enc (.tf (wr x.t) (wr x.u)))), .agg #[.int .i64 X, .int .i64 Y]]))) := by
    show Ans _ _
    rw [hRR]
    rcases hXY with ⟨h, rfl, rfl⟩ | ⟨h, rfl, rfl⟩
    · simp only [h, if_true]; exact ⟨_, rfl⟩
    · simp only [h, Bool.false_eq_true, if_false]; exact ⟨by simp, _, rfl⟩
  have HS : Aside (∀ W, Below w0.heap.size w0 W → W.cell? ⟨cb, 1, none⟩ = some (.slice (some ⟨tb, 0, none⟩) n n) ∧ W.cell? ⟨tb, i, none⟩ = some (.string (S (enc (.tf (wr x.t) (wr x.u))))) ∧ W.cell? ⟨kb, 0, none⟩ = some (.int .i64 (k.1 : Int)) ∧ W.cell? ⟨w.heap.size + 1, 5, none⟩ = some (.string x.u)) := fun W hB => by
    have hbw := hR.below.trans (hB.mono (by have := hR.size; omega))
    obtain ⟨-, ⟨-, -, y4, y5⟩, -, -⟩ := hR.later hB
    exact ⟨(hT.below hcb hbw), ((hbw.cell (p := ⟨tb, i, none⟩) htb).trans hti), ((hbw.cell (p := ⟨kb, 0, none⟩) hkb).trans g0), y5⟩
  have HA : ∀ W, Below w0.heap.size w0 W → Calls Tryz.prog 143 #[.pointer (some ⟨cb, 0, none⟩), .int .i64 (k.1 : Int), .string (if x.u.size = 0 then (⟨#[63]⟩ : ByteArray) else x.u), .agg #[.int .i64 23, .int .i64 (k.1 : Nat)]] W fun e w' => e = .returned (.agg #[.int .i64 X, .int .i64 Y]) ∧ Below W.heap.size W w' := by
    intro W hB0
    have hB := hR.below.trans (hB0.mono (by have := hR.size; omega))
    rw [hU]
    refine (ask_any W cb tb n k.1 k.2 (wr x.u) 23 ((k.1 : Nat) : Int) (hT.below hcb hB) g1 ((hB.cell (p := ⟨tb, k.1, none⟩) htb).trans g2) g3 hU64).mono ?_
    rintro e w' ⟨rfl, hB'⟩
    refine ⟨?_, hB'⟩
    rcases hXY with ⟨h, rfl, rfl⟩ | ⟨h, rfl, rfl⟩
    · rw [h]; rfl
    · rw [h]; rfl
  have HL : Aside (∀ W, Below w0.heap.size w0 W → _) := fun W hB => hR.later hB
  have hS0 := HS.out w0 (Below.refl _ _)
  have HS2 : Aside (∀ W : World, (W.cell? ⟨cb, 1, none⟩ = some (.slice (some ⟨tb, 0, none⟩) n n) ∧ W.cell? ⟨tb, i, none⟩ = some (.string (S (enc (.tf (wr x.t) (wr x.u))))) ∧ W.cell? ⟨kb, 0, none⟩ = some (.int .i64 (k.1 : Int)) ∧ W.cell? ⟨w.heap.size + 1, 5, none⟩ = some (.string x.u)) → ∀ p q : Value, ((W.setCell ⟨w.heap.size, 0, none⟩ p).setCell ⟨w.heap.size, 1, none⟩ q).cell? ⟨cb, 1, none⟩ = some (.slice (some ⟨tb, 0, none⟩) n n) ∧ ((W.setCell ⟨w.heap.size, 0, none⟩ p).setCell ⟨w.heap.size, 1, none⟩ q).cell? ⟨tb, i, none⟩ = some (.string (S (enc (.tf (wr x.t) (wr x.u))))) ∧ ((W.setCell ⟨w.heap.size, 0, none⟩ p).setCell ⟨w.heap.size, 1, none⟩ q).cell? ⟨kb, 0, none⟩ = some (.int .i64 (k.1 : Int)) ∧ ((W.setCell ⟨w.heap.size, 0, none⟩ p).setCell ⟨w.heap.size, 1, none⟩ q).cell? ⟨w.heap.size + 1, 5, none⟩ = some (.string x.u)) := fun W h p q => ⟨(cell_set2 (by omega)).trans h.1, (cell_set2 (by omega)).trans h.2.1, (cell_set2 (by omega)).trans h.2.2.1, (cell_set2 (by omega)).trans h.2.2.2⟩
  have HW := written_any x.u
  generalize hsu : (if x.u.size = 0 then (⟨#[63]⟩ : ByteArray) else x.u) = su at *
  rw [← hRR]
  have HRR : Aside _ := hRR
  clear hnd n0 hA hRR hT hK hN hU
  go_enter Tryz.func82, Tryz.ntmps82
  go_upto_region 2 with fail
  rw [hκ] at hw0 d0
  rw [← hw0]
  clear hw0 e0 q0 q1 q2 q3 q4 q5 q6 q7
  clear hR hXY HRR
  go_upto_region 14 with fail
  go_region_held (fun W => W.cell? ⟨cb, 1, none⟩ = some (.slice (some ⟨tb, 0, none⟩) n n) ∧ W.cell? ⟨tb, i, none⟩ = some (.string (S (enc (.tf (wr x.t) (wr x.u))))) ∧ W.cell? ⟨kb, 0, none⟩ = some (.int .i64 (k.1 : Int)) ∧ W.cell? ⟨w.heap.size + 1, 5, none⟩ = some (.string x.u)) (first | exact hS1 | exact hS0 | exact hS2 _ _ | go_keep) (first | (go_at_call 140; refine (HW _).mono ?_; rintro e w9 ⟨rfl, hw9⟩; replace hw9 := hw9.symm; subst hw9) | (go_at_call 143; refine (HA _ (by first | exact below_dr (Below.refl _ _) | exact Below.refl _ _)).mono ?_; rintro e w1 ⟨rfl, hB1⟩; have hb1 : Below w0.heap.size w0 w1 := ⟨hB1.os, hB1.tape, hB1.output, hB1.size, hB1.block⟩; have hS1 := HS.out w1 hb1; have hS2 := HS2.out w1 hS1; obtain ⟨⟨⟨m0, m1⟩, mz⟩, -, -, hbf⟩ := HL.out w1 hb1))
  all_goals
    go_wp2_with fail
    try simp only [Exit.inBlock, Exit.then]
    refine bodyPost_ret (v := .tuple #[.string (S (enc (.tf (wr x.t) (wr x.u)))), .agg #[.int .i64 X, .int .i64 Y]]) (by simp [results, Tryz.results82, go_sem, m0, m1]) rfl ?_
    exact ⟨HAns.out, hbf _ _⟩
end Go.Proofs.YthdlfeejeboboaaGreatDoor
