/- Package check: the rules of Let and As. Package check: the rule of Box. Package check: the rule of Pair. -/
import Derived.Test.YthdlfeejeboboaaGreatDoorUap
import Derived.Deep.RegionHeld
namespace Go.Proofs.YthdlfeejeboboaaGreatDoor
open Go.RowKit Ck
open T3.Tp (Ty enc cns met)
set_option maxRecDepth 100000
set_option linter.unusedSimpArgs false
set_option maxHeartbeats 8000000 in
theorem rule_let (w : World) (cb tb n i : Nat) (nv kv sv : Value) (l : List Tr.Nd) (x : Tr.Nd) (k b : Nat × Ty) (hK : Kds w tb n kv [k, b]) (hU : (if x.t.size = 0 then (⟨#[63]⟩ : ByteArray) else x.t) = S (enc (wr x.t))) (hU64 : (enc (wr x.t)).length ≤ 64) (hx : l[i]? = some x) (hκ : x.kind = 8) (hN : HasN w cb nv l) (hT : HasT w cb tb n) :
    Calls Tryz.prog 82 #[.pointer (some ⟨cb, 0, none⟩), .int .i64 (i : Int), kv, sv] w fun e w' => Ans (if cns k.2 (wr x.t) then .ok b.2 else .error (23, k.1)) e ∧ Below w.heap.size w w' := by
  obtain ⟨nb, no, nc, rfl, hnb, hnd⟩ := hN.at hx
  have hil : i < l.length := (List.getElem?_eq_some_iff.1 hx).1
  have hil' : (i : Int) < (l.length : Int) := by omega
  have n0 : w.cell? ⟨cb, 0, none⟩ = some (.slice (some ⟨nb, no, none⟩) l.length nc) := hN.1
  have hcb : cb < w.heap.size := World.block_lt_of_cell? _ _ n0
  have hA : ∀ o, Below w.heap.size w (w.alloc o) := fun o => (Below.refl _ _).alloc (Nat.le_refl _) o
  have e0 : ∀ o, (w.alloc o).cell? ⟨cb, 0, none⟩ = some (.slice (some ⟨nb, no, none⟩) l.length nc) := fun o => ((hA o).cell hcb).trans n0
  have q0 : ∀ o, (w.alloc o).cell? ⟨nb, no + i * 8, none⟩ = some (.int .i8 x.kind) := fun o => ((hA o).cell hnb).trans (hnd 0 _ rfl)
  have q1 : ∀ o, (w.alloc o).cell? ⟨nb, no + i * 8 + 1, none⟩ = some (.int .i64 x.kids) := fun o => ((hA o).cell hnb).trans (hnd 1 _ rfl)
  have q2 : ∀ o, (w.alloc o).cell? ⟨nb, no + i * 8 + 2, none⟩ = some (.int .i64 x.n) := fun o => ((hA o).cell hnb).trans (hnd 2 _ rfl)
  have q3 : ∀ o, (w.alloc o).cell? ⟨nb, no + i * 8 + 3, none⟩ = some (.string x.s) := fun o => ((hA o).cell hnb).trans (hnd 3 _ rfl)
  have q4 : ∀ o, (w.alloc o).cell? ⟨nb, no + i * 8 + 4, none⟩ = some (.string x.t) := fun o => ((hA o).cell hnb).trans (hnd 4 _ rfl)
  have q5 : ∀ o, (w.alloc o).cell? ⟨nb, no + i * 8 + 5, none⟩ = some (.string x.u) := fun o => ((hA o).cell hnb).trans (hnd 5 _ rfl)
  have q6 : ∀ o, (w.alloc o).cell? ⟨nb, no + i * 8 + 6, none⟩ = some (.int .i64 x.ln) := fun o => ((hA o).cell hnb).trans (hnd 6 _ rfl)
  have q7 : ∀ o, (w.alloc o).cell? ⟨nb, no + i * 8 + 7, none⟩ = some (.int .i64 x.co) := fun o => ((hA o).cell hnb).trans (hnd 7 _ rfl)
  obtain ⟨w0, hw0⟩ : ∃ w0, w0 = (w.alloc (.cells #[.int .i64 0, .int .i64 0] 98)).alloc (.cells #[.int .i8 x.kind, .int .i64 x.kids, .int .i64 x.n, .string x.s, .string x.t, .string x.u, .int .i64 x.ln, .int .i64 x.co] 72) := ⟨_, rfl⟩
  have hR : Rl w w0 x := by rw [hw0]; exact Rl.made w x
  obtain ⟨R, hRR⟩ : ∃ R : Rs Ty, R = if cns k.2 (wr x.t) then .ok b.2 else .error (23, k.1) := ⟨_, rfl⟩
  obtain ⟨⟨⟨r0, r1⟩, rz⟩, ⟨d0, d3, d4, d5⟩, -, -⟩ := hR.later (Below.refl _ _)
  obtain ⟨kb, rfl, g0, g1, g2, g3⟩ := hK.at' 0 k rfl
  have hkb : kb < w.heap.size := World.block_lt_of_cell? _ _ g0
  have htb : tb < w.heap.size := World.block_lt_of_cell? _ _ g2
  have hk0 : (k.1 : Int) < (n : Int) := by omega
  obtain ⟨kb', hk2, b0, b1, b2, b3⟩ := hK.at' 1 b rfl
  obtain rfl : kb = kb' := by simpa using hk2
  have hb0 : (b.1 : Int) < (n : Int) := by omega
  obtain ⟨X, Y, hXY⟩ : ∃ X Y : Int, (cns k.2 (wr x.t) = true ∧ X = 0 ∧ Y = 0) ∨ (cns k.2 (wr x.t) = false ∧ X = 23 ∧ Y = (k.1 : Nat)) := by
    cases cns k.2 (wr x.t)
    · exact ⟨23, (k.1 : Nat), .inr ⟨rfl, rfl, rfl⟩⟩
    · exact ⟨0, 0, .inl ⟨rfl, rfl, rfl⟩⟩
  have HAns : Aside (Ans R (.returned (.tuple #[.string (S (enc b.2)), .agg #[.int .i64 X, .int .i64 Y]]))) := by
    show Ans _ _
    rw [hRR]
    rcases hXY with ⟨h, rfl, rfl⟩ | ⟨h, rfl, rfl⟩
    · simp only [h, if_true]; exact ⟨_, rfl⟩
    · simp only [h, Bool.false_eq_true, if_false]; exact ⟨by simp, _, rfl⟩
  have HS : Aside (∀ W, Below w0.heap.size w0 W → W.cell? ⟨cb, 1, none⟩ = some (.slice (some ⟨tb, 0, none⟩) n n) ∧ W.cell? ⟨kb, 1, none⟩ = some (.int .i64 (b.1 : Int)) ∧ W.cell? ⟨tb, b.1, none⟩ = some (.string (S (enc b.2))) ∧ W.cell? ⟨kb, 0, none⟩ = some (.int .i64 (k.1 : Int)) ∧ W.cell? ⟨w.heap.size + 1, 4, none⟩ = some (.string x.t)) := fun W hB => by
    have hbw := hR.below.trans (hB.mono (by have := hR.size; omega))
    obtain ⟨-, ⟨-, -, y4, y5⟩, -, -⟩ := hR.later hB
    exact ⟨(hT.below hcb hbw), ((hbw.cell (p := ⟨kb, 1, none⟩) hkb).trans b0), ((hbw.cell (p := ⟨tb, b.1, none⟩) htb).trans b2), ((hbw.cell (p := ⟨kb, 0, none⟩) hkb).trans g0), y4⟩
  have HA : ∀ W, Below w0.heap.size w0 W → Calls Tryz.prog 143 #[.pointer (some ⟨cb, 0, none⟩), .int .i64 (k.1 : Int), .string (if x.t.size = 0 then (⟨#[63]⟩ : ByteArray) else x.t), .agg #[.int .i64 23, .int .i64 (k.1 : Nat)]] W fun e w' => e = .returned (.agg #[.int .i64 X, .int .i64 Y]) ∧ Below W.heap.size W w' := by
    intro W hB0
    have hB := hR.below.trans (hB0.mono (by have := hR.size; omega))
    rw [hU]
    refine (ask_any W cb tb n k.1 k.2 (wr x.t) 23 ((k.1 : Nat) : Int) (hT.below hcb hB) g1 ((hB.cell (p := ⟨tb, k.1, none⟩) htb).trans g2) g3 hU64).mono ?_
    rintro e w' ⟨rfl, hB'⟩
    refine ⟨?_, hB'⟩
    rcases hXY with ⟨h, rfl, rfl⟩ | ⟨h, rfl, rfl⟩
    · rw [h]; rfl
    · rw [h]; rfl
  have HL : Aside (∀ W, Below w0.heap.size w0 W → _) := fun W hB => hR.later hB
  have hS0 := HS.out w0 (Below.refl _ _)
  have HS2 : Aside (∀ W : World, (W.cell? ⟨cb, 1, none⟩ = some (.slice (some ⟨tb, 0, none⟩) n n) ∧ W.cell? ⟨kb, 1, none⟩ = some (.int .i64 (b.1 : Int)) ∧ W.cell? ⟨tb, b.1, none⟩ = some (.string (S (enc b.2))) ∧ W.cell? ⟨kb, 0, none⟩ = some (.int .i64 (k.1 : Int)) ∧ W.cell? ⟨w.heap.size + 1, 4, none⟩ = some (.string x.t)) → ∀ p q : Value, ((W.setCell ⟨w.heap.size, 0, none⟩ p).setCell ⟨w.heap.size, 1, none⟩ q).cell? ⟨cb, 1, none⟩ = some (.slice (some ⟨tb, 0, none⟩) n n) ∧ ((W.setCell ⟨w.heap.size, 0, none⟩ p).setCell ⟨w.heap.size, 1, none⟩ q).cell? ⟨kb, 1, none⟩ = some (.int .i64 (b.1 : Int)) ∧ ((W.setCell ⟨w.heap.size, 0, none⟩ p).setCell ⟨w.heap.size, 1, none⟩ q).cell? ⟨tb, b.1, none⟩ = some (.string (S (enc b.2))) ∧ ((W.setCell ⟨w.heap.size, 0, none⟩ p).setCell ⟨w.heap.size, 1, none⟩ q).cell? ⟨kb, 0, none⟩ = some (.int .i64 (k.1 : Int)) ∧ ((W.setCell ⟨w.heap.size, 0, none⟩ p).setCell ⟨w.heap.size, 1, none⟩ q).cell? ⟨w.heap.size + 1, 4, none⟩ = some (.string x.t)) := fun W h p q => ⟨(cell_set2 (by omega)).trans h.1, (cell_set2 (by omega)).trans h.2.1, (cell_set2 (by omega)).trans h.2.2.1, (cell_set2 (by omega)).trans h.2.2.2.1, (cell_set2 (by omega)).trans h.2.2.2.2⟩
  have HW := written_any x.t
  generalize hsu : (if x.t.size = 0 then (⟨#[63]⟩ : ByteArray) else x.t) = su at *
  rw [← hRR]
  have HRR : Aside _ := hRR
  clear hnd n0 hA hRR hT hK hN hU
  go_enter Tryz.func82, Tryz.ntmps82
  go_upto_region 2 with fail
  rw [hκ] at hw0 d0
  rw [← hw0]
  clear hw0 e0 q0 q1 q2 q3 q4 q5 q6 q7
  clear hR hXY HRR
  go_upto_region 16 with fail
  go_region_held (fun W => W.cell? ⟨cb, 1, none⟩ = some (.slice (some ⟨tb, 0, none⟩) n n) ∧ W.cell? ⟨kb, 1, none⟩ = some (.int .i64 (b.1 : Int)) ∧ W.cell? ⟨tb, b.1, none⟩ = some (.string (S (enc b.2))) ∧ W.cell? ⟨kb, 0, none⟩ = some (.int .i64 (k.1 : Int)) ∧ W.cell? ⟨w.heap.size + 1, 4, none⟩ = some (.string x.t)) (first | exact hS1 | exact hS0 | exact hS2 _ _ | go_keep) (first | (go_at_call 140; refine (HW _).mono ?_; rintro e w9 ⟨rfl, hw9⟩; replace hw9 := hw9.symm; subst hw9) | (go_at_call 143; refine (HA _ (by first | exact below_dr (Below.refl _ _) | exact Below.refl _ _)).mono ?_; rintro e w1 ⟨rfl, hB1⟩; have hb1 : Below w0.heap.size w0 w1 := ⟨hB1.os, hB1.tape, hB1.output, hB1.size, hB1.block⟩; have hS1 := HS.out w1 hb1; have hS2 := HS2.out w1 hS1; obtain ⟨⟨⟨m0, m1⟩, mz⟩, -, -, hbf⟩ := HL.out w1 hb1))
  all_goals
    go_wp2_with fail
    try simp only [Exit.inBlock, Exit.then]
    refine bodyPost_ret (v := .tuple #[.string (S (enc b.2)), .agg #[.int .i64 X, .int .i64 Y]]) (by simp [results, Tryz.results82, go_sem, m0, m1]) rfl ?_
    exact ⟨HAns.out, hbf _ _⟩
set_option maxHeartbeats 8000000 in
theorem rule_as (w : World) (cb tb n i : Nat) (nv kv sv : Value) (l : List Tr.Nd) (x : Tr.Nd) (k : Nat × Ty) (hK : Kds w tb n kv [k]) (hU : x.t = S (enc (wr x.t))) (hU64 : (enc (wr x.t)).length ≤ 64) (hx : l[i]? = some x) (hκ : x.kind = 29) (hN : HasN w cb nv l) (hT : HasT w cb tb n) :
    Calls Tryz.prog 82 #[.pointer (some ⟨cb, 0, none⟩), .int .i64 (i : Int), kv, sv] w fun e w' => Ans (if cns k.2 (wr x.t) then .ok (wr x.t) else .error (23, i)) e ∧ Below w.heap.size w w' := by
  obtain ⟨nb, no, nc, rfl, hnb, hnd⟩ := hN.at hx
  have hil : i < l.length := (List.getElem?_eq_some_iff.1 hx).1
  have hil' : (i : Int) < (l.length : Int) := by omega
  have n0 : w.cell? ⟨cb, 0, none⟩ = some (.slice (some ⟨nb, no, none⟩) l.length nc) := hN.1
  have hcb : cb < w.heap.size := World.block_lt_of_cell? _ _ n0
  have hA : ∀ o, Below w.heap.size w (w.alloc o) := fun o => (Below.refl _ _).alloc (Nat.le_refl _) o
  have e0 : ∀ o, (w.alloc o).cell? ⟨cb, 0, none⟩ = some (.slice (some ⟨nb, no, none⟩) l.length nc) := fun o => ((hA o).cell hcb).trans n0
  have q0 : ∀ o, (w.alloc o).cell? ⟨nb, no + i * 8, none⟩ = some (.int .i8 x.kind) := fun o => ((hA o).cell hnb).trans (hnd 0 _ rfl)
  have q1 : ∀ o, (w.alloc o).cell? ⟨nb, no + i * 8 + 1, none⟩ = some (.int .i64 x.kids) := fun o => ((hA o).cell hnb).trans (hnd 1 _ rfl)
  have q2 : ∀ o, (w.alloc o).cell? ⟨nb, no + i * 8 + 2, none⟩ = some (.int .i64 x.n) := fun o => ((hA o).cell hnb).trans (hnd 2 _ rfl)
  have q3 : ∀ o, (w.alloc o).cell? ⟨nb, no + i * 8 + 3, none⟩ = some (.string x.s) := fun o => ((hA o).cell hnb).trans (hnd 3 _ rfl)
  have q4 : ∀ o, (w.alloc o).cell? ⟨nb, no + i * 8 + 4, none⟩ = some (.string x.t) := fun o => ((hA o).cell hnb).trans (hnd 4 _ rfl)
  have q5 : ∀ o, (w.alloc o).cell? ⟨nb, no + i * 8 + 5, none⟩ = some (.string x.u) := fun o => ((hA o).cell hnb).trans (hnd 5 _ rfl)
  have q6 : ∀ o, (w.alloc o).cell? ⟨nb, no + i * 8 + 6, none⟩ = some (.int .i64 x.ln) := fun o => ((hA o).cell hnb).trans (hnd 6 _ rfl)
  have q7 : ∀ o, (w.alloc o).cell? ⟨nb, no + i * 8 + 7, none⟩ = some (.int .i64 x.co) := fun o => ((hA o).cell hnb).trans (hnd 7 _ rfl)
  obtain ⟨w0, hw0⟩ : ∃ w0, w0 = (w.alloc (.cells #[.int .i64 0, .int .i64 0] 98)).alloc (.cells #[.int .i8 x.kind, .int .i64 x.kids, .int .i64 x.n, .string x.s, .string x.t, .string x.u, .int .i64 x.ln, .int .i64 x.co] 72) := ⟨_, rfl⟩
  have hR : Rl w w0 x := by rw [hw0]; exact Rl.made w x
  obtain ⟨R, hRR⟩ : ∃ R : Rs Ty, R = if cns k.2 (wr x.t) then .ok (wr x.t) else .error (23, i) := ⟨_, rfl⟩
  obtain ⟨⟨⟨r0, r1⟩, rz⟩, ⟨d0, d3, d4, d5⟩, -, -⟩ := hR.later (Below.refl _ _)
  obtain ⟨kb, rfl, g0, g1, g2, g3⟩ := hK.at' 0 k rfl
  have hkb : kb < w.heap.size := World.block_lt_of_cell? _ _ g0
  have htb : tb < w.heap.size := World.block_lt_of_cell? _ _ g2
  have hk0 : (k.1 : Int) < (n : Int) := by omega
  obtain ⟨X, Y, hXY⟩ : ∃ X Y : Int, (cns k.2 (wr x.t) = true ∧ X = 0 ∧ Y = 0) ∨ (cns k.2 (wr x.t) = false ∧ X = 23 ∧ Y = (i : Nat)) := by
    cases cns k.2 (wr x.t)
    · exact ⟨23, (i : Nat), .inr ⟨rfl, rfl, rfl⟩⟩
    · exact ⟨0, 0, .inl ⟨rfl, rfl, rfl⟩⟩
  have HAns : Aside (Ans R (.returned (.tuple #[.string (x.t), .agg #[.int .i64 X, .int .i64 Y]]))) := by
    show Ans _ _
    rw [hRR]
    rcases hXY with ⟨h, rfl, rfl⟩ | ⟨h, rfl, rfl⟩
    · simp only [h, if_true]; exact ⟨_, by rw [← hU]; rfl⟩
    · simp only [h, Bool.false_eq_true, if_false]; exact ⟨by simp, _, rfl⟩
  have HS : Aside (∀ W, Below w0.heap.size w0 W → W.cell? ⟨kb, 0, none⟩ = some (.int .i64 (k.1 : Int)) ∧ W.cell? ⟨w.heap.size + 1, 4, none⟩ = some (.string x.t)) := fun W hB => by
    have hbw := hR.below.trans (hB.mono (by have := hR.size; omega))
    obtain ⟨-, ⟨-, -, y4, y5⟩, -, -⟩ := hR.later hB
    exact ⟨((hbw.cell (p := ⟨kb, 0, none⟩) hkb).trans g0), y4⟩
  have HA : ∀ W, Below w0.heap.size w0 W → Calls Tryz.prog 143 #[.pointer (some ⟨cb, 0, none⟩), .int .i64 (k.1 : Int), .string (x.t), .agg #[.int .i64 23, .int .i64 (i : Nat)]] W fun e w' => e = .returned (.agg #[.int .i64 X, .int .i64 Y]) ∧ Below W.heap.size W w' := by
    intro W hB0
    have hB := hR.below.trans (hB0.mono (by have := hR.size; omega))
    rw [hU]
    refine (ask_any W cb tb n k.1 k.2 (wr x.t) 23 ((i : Nat) : Int) (hT.below hcb hB) g1 ((hB.cell (p := ⟨tb, k.1, none⟩) htb).trans g2) g3 hU64).mono ?_
    rintro e w' ⟨rfl, hB'⟩
    refine ⟨?_, hB'⟩
    rcases hXY with ⟨h, rfl, rfl⟩ | ⟨h, rfl, rfl⟩
    · rw [h]; rfl
    · rw [h]; rfl
  have HL : Aside (∀ W, Below w0.heap.size w0 W → _) := fun W hB => hR.later hB
  have hS0 := HS.out w0 (Below.refl _ _)
  have HS2 : Aside (∀ W : World, (W.cell? ⟨kb, 0, none⟩ = some (.int .i64 (k.1 : Int)) ∧ W.cell? ⟨w.heap.size + 1, 4, none⟩ = some (.string x.t)) → ∀ p q : Value, ((W.setCell ⟨w.heap.size, 0, none⟩ p).setCell ⟨w.heap.size, 1, none⟩ q).cell? ⟨kb, 0, none⟩ = some (.int .i64 (k.1 : Int)) ∧ ((W.setCell ⟨w.heap.size, 0, none⟩ p).setCell ⟨w.heap.size, 1, none⟩ q).cell? ⟨w.heap.size + 1, 4, none⟩ = some (.string x.t)) := fun W h p q => ⟨(cell_set2 (by omega)).trans h.1, (cell_set2 (by omega)).trans h.2⟩
  rw [← hRR]
  have HRR : Aside _ := hRR
  clear hnd n0 hA hRR hT hK hN hU
  go_enter Tryz.func82, Tryz.ntmps82
  go_upto_region 2 with fail
  rw [hκ] at hw0 d0
  rw [← hw0]
  clear hw0 e0 q0 q1 q2 q3 q4 q5 q6 q7
  clear hR hXY HRR
  go_upto_region 18 with fail
  go_region_held (fun W => W.cell? ⟨kb, 0, none⟩ = some (.int .i64 (k.1 : Int)) ∧ W.cell? ⟨w.heap.size + 1, 4, none⟩ = some (.string x.t)) (first | exact hS1 | exact hS0 | exact hS2 _ _ | go_keep) (first | (go_at_call 143; refine (HA _ (by first | exact below_dr (Below.refl _ _) | exact Below.refl _ _)).mono ?_; rintro e w1 ⟨rfl, hB1⟩; have hb1 : Below w0.heap.size w0 w1 := ⟨hB1.os, hB1.tape, hB1.output, hB1.size, hB1.block⟩; have hS1 := HS.out w1 hb1; have hS2 := HS2.out w1 hS1; obtain ⟨⟨⟨m0, m1⟩, mz⟩, -, -, hbf⟩ := HL.out w1 hb1))
  all_goals
    go_wp2_with fail
    try simp only [Exit.inBlock, Exit.then]
    refine bodyPost_ret (v := .tuple #[.string (x.t), .agg #[.int .i64 X, .int .i64 Y]]) (by simp [results, Tryz.results82, go_sem, m0, m1]) rfl ?_
    exact ⟨HAns.out, hbf _ _⟩
end Go.Proofs.YthdlfeejeboboaaGreatDoor
namespace Go.Proofs.YthdlfeejeboboaaGreatDoor
open Go.RowKit Ck
open T3.Tp (Ty enc cns met)
set_option maxRecDepth 100000
set_option linter.unusedSimpArgs false
set_option maxHeartbeats 8000000 in
theorem rule_box (w : World) (cb tb n i : Nat) (nv kv sv : Value) (l : List Tr.Nd) (x : Tr.Nd) (a : Nat × Ty) (hK : Kds w tb n kv [a]) (hx : l[i]? = some x) (hκ : x.kind = 26) (hN : HasN w cb nv l) (hT : HasT w cb tb n) :
    Calls Tryz.prog 82 #[.pointer (some ⟨cb, 0, none⟩), .int .i64 (i : Int), kv, sv] w fun e w' => Ans (made i (.tx a.2)) e ∧ Below w.heap.size w w' := by
  obtain ⟨nb, no, nc, rfl, hnb, hnd⟩ := hN.at hx
  have hil : i < l.length := (List.getElem?_eq_some_iff.1 hx).1
  have hil' : (i : Int) < (l.length : Int) := by omega
  have n0 : w.cell? ⟨cb, 0, none⟩ = some (.slice (some ⟨nb, no, none⟩) l.length nc) := hN.1
  have hcb : cb < w.heap.size := World.block_lt_of_cell? _ _ n0
  have hA : ∀ o, Below w.heap.size w (w.alloc o) := fun o => (Below.refl _ _).alloc (Nat.le_refl _) o
  have e0 : ∀ o, (w.alloc o).cell? ⟨cb, 0, none⟩ = some (.slice (some ⟨nb, no, none⟩) l.length nc) := fun o => ((hA o).cell hcb).trans n0
  have q0 : ∀ o, (w.alloc o).cell? ⟨nb, no + i * 8, none⟩ = some (.int .i8 x.kind) := fun o => ((hA o).cell hnb).trans (hnd 0 _ rfl)
  have q1 : ∀ o, (w.alloc o).cell? ⟨nb, no + i * 8 + 1, none⟩ = some (.int .i64 x.kids) := fun o => ((hA o).cell hnb).trans (hnd 1 _ rfl)
  have q2 : ∀ o, (w.alloc o).cell? ⟨nb, no + i * 8 + 2, none⟩ = some (.int .i64 x.n) := fun o => ((hA o).cell hnb).trans (hnd 2 _ rfl)
  have q3 : ∀ o, (w.alloc o).cell? ⟨nb, no + i * 8 + 3, none⟩ = some (.string x.s) := fun o => ((hA o).cell hnb).trans (hnd 3 _ rfl)
  have q4 : ∀ o, (w.alloc o).cell? ⟨nb, no + i * 8 + 4, none⟩ = some (.string x.t) := fun o => ((hA o).cell hnb).trans (hnd 4 _ rfl)
  have q5 : ∀ o, (w.alloc o).cell? ⟨nb, no + i * 8 + 5, none⟩ = some (.string x.u) := fun o => ((hA o).cell hnb).trans (hnd 5 _ rfl)
  have q6 : ∀ o, (w.alloc o).cell? ⟨nb, no + i * 8 + 6, none⟩ = some (.int .i64 x.ln) := fun o => ((hA o).cell hnb).trans (hnd 6 _ rfl)
  have q7 : ∀ o, (w.alloc o).cell? ⟨nb, no + i * 8 + 7, none⟩ = some (.int .i64 x.co) := fun o => ((hA o).cell hnb).trans (hnd 7 _ rfl)
  obtain ⟨w0, hw0⟩ : ∃ w0, w0 = (w.alloc (.cells #[.int .i64 0, .int .i64 0] 98)).alloc (.cells #[.int .i8 x.kind, .int .i64 x.kids, .int .i64 x.n, .string x.s, .string x.t, .string x.u, .int .i64 x.ln, .int .i64 x.co] 72) := ⟨_, rfl⟩
  have hR : Rl w w0 x := by rw [hw0]; exact Rl.made w x
  obtain ⟨R, hRR⟩ : ∃ R : Rs Ty, R = made i (.tx a.2) := ⟨_, rfl⟩
  obtain ⟨⟨⟨r0, r1⟩, rz⟩, ⟨d0, d3, d4, d5⟩, -, -⟩ := hR.later (Below.refl _ _)
  obtain ⟨kb, rfl, g0, g1, g2, g3⟩ := hK.at' 0 a rfl
  have hkb : kb < w.heap.size := World.block_lt_of_cell? _ _ g0
  have htb : tb < w.heap.size := World.block_lt_of_cell? _ _ g2
  have hk0 : (a.1 : Int) < (n : Int) := by omega
  have HS : Aside (∀ W : World, Below w0.heap.size w0 W → W.cell? ⟨cb, 1, none⟩ = some (.slice (some ⟨tb, 0, none⟩) n n) ∧ W.cell? ⟨kb, 0, none⟩ = some (.int .i64 (a.1 : Int)) ∧ W.cell? ⟨tb, a.1, none⟩ = some (.string (S (enc a.2)))) := fun W hB => by
    have hbw := hR.below.trans (hB.mono (by have := hR.size; omega))
    exact ⟨(hT.below hcb hbw), ((hbw.cell (p := ⟨kb, 0, none⟩) hkb).trans g0), ((hbw.cell (p := ⟨tb, a.1, none⟩) htb).trans g2)⟩
  have hz := hR.size
  have HS2 : Aside (∀ W : World, (W.cell? ⟨cb, 1, none⟩ = some (.slice (some ⟨tb, 0, none⟩) n n) ∧ W.cell? ⟨kb, 0, none⟩ = some (.int .i64 (a.1 : Int)) ∧ W.cell? ⟨tb, a.1, none⟩ = some (.string (S (enc a.2)))) → ∀ p q : Value, ((W.setCell ⟨w.heap.size, 0, none⟩ p).setCell ⟨w.heap.size, 1, none⟩ q).cell? ⟨cb, 1, none⟩ = some (.slice (some ⟨tb, 0, none⟩) n n) ∧ ((W.setCell ⟨w.heap.size, 0, none⟩ p).setCell ⟨w.heap.size, 1, none⟩ q).cell? ⟨kb, 0, none⟩ = some (.int .i64 (a.1 : Int)) ∧ ((W.setCell ⟨w.heap.size, 0, none⟩ p).setCell ⟨w.heap.size, 1, none⟩ q).cell? ⟨tb, a.1, none⟩ = some (.string (S (enc a.2)))) := fun W h p q => ⟨(cell_set2 (by omega)).trans h.1, (cell_set2 (by omega)).trans h.2.1, (cell_set2 (by omega)).trans h.2.2⟩
  have hS0 := HS.out w0 (Below.refl _ _)
  have hSA := HS.out (w0.alloc (.cells #[.string (S (enc a.2))] 9)) ((Below.refl _ _).alloc (Nat.le_refl _) _)
  have HM : Calls Tryz.prog 145 #[.int .i64 (i : Int), .int .u8 120, .slice (some ⟨w.heap.size + 2, 0, none⟩) 1 1] (w0.alloc (.cells #[.string (S (enc a.2))] 9)).drew fun e w' => Ans R e ∧ Below (w0.alloc (.cells #[.string (S (enc a.2))] 9)).drew.heap.size (w0.alloc (.cells #[.string (S (enc a.2))] 9)).drew w' := by
    rw [hRR, ← hz]
    exact made_any (.tx a.2) i _ (w0.alloc (.cells #[.string (S (enc a.2))] 9)).drew (by intro u hu; simp [T3.Tp.kids] at hu; subst hu; assumption) (T3.texts1 w0 (enc a.2)) (by simp [T3.Tp.kids])
  have HL : Aside (∀ W, Below w0.heap.size w0 W → _) := fun W hB => hR.later hB
  rw [← hRR]
  have HRR : Aside _ := hRR
  clear hnd n0 hA hRR hT hK hN
  go_enter Tryz.func82, Tryz.ntmps82
  go_upto_region 2 with fail
  rw [hκ] at hw0 d0
  rw [← hw0]
  clear hw0 e0 q0 q1 q2 q3 q4 q5 q6 q7
  clear hR HRR
  generalize S (enc a.2) = sa at *
  go_upto_region 24 with fail
  go_region_held (fun W => W.cell? ⟨cb, 1, none⟩ = some (.slice (some ⟨tb, 0, none⟩) n n) ∧ W.cell? ⟨kb, 0, none⟩ = some (.int .i64 (a.1 : Int)) ∧ W.cell? ⟨tb, a.1, none⟩ = some (.string (sa))) (first | exact hS1 | exact hS0 | exact hSA | exact hS2 _ _ | go_keep) (first | (go_at_call 145; refine HM.mono ?_; rintro e w1 ⟨hans, hB1⟩; have hb1 : Below w0.heap.size w0 w1 := below_unalloc (o := .cells #[.string (sa)] 9) ⟨hB1.os, hB1.tape, hB1.output, hB1.size, hB1.block⟩; have hS1 := HS.out w1 hb1; have hS2 := HS2.out w1 hS1; obtain ⟨⟨⟨m0, m1⟩, mz⟩, -, -, hbf⟩ := HL.out w1 hb1; obtain ⟨s, c, p, rfl⟩ := hans.form))
  all_goals
    go_wp2_with fail
    try simp only [Exit.inBlock, Exit.then]
    refine bodyPost_ret (v := .tuple #[.string s, .agg #[.int .i64 c, .int .i64 p]]) (by simp [results, Tryz.results82, go_sem, m0, m1]) rfl ?_
    exact ⟨hans, hbf _ _⟩
end Go.Proofs.YthdlfeejeboboaaGreatDoor
namespace Go.Proofs.YthdlfeejeboboaaGreatDoor
open Go.RowKit Ck
open T3.Tp (Ty enc cns met)
set_option maxRecDepth 100000
set_option linter.unusedSimpArgs false
set_option maxHeartbeats 8000000 in
theorem rule_pair (w : World) (cb tb n i : Nat) (nv kv sv : Value) (l : List Tr.Nd) (x : Tr.Nd) (a b : Nat × Ty) (hK : Kds w tb n kv [a, b]) (hx : l[i]? = some x) (hκ : x.kind = 18) (hN : HasN w cb nv l) (hT : HasT w cb tb n) :
    Calls Tryz.prog 82 #[.pointer (some ⟨cb, 0, none⟩), .int .i64 (i : Int), kv, sv] w fun e w' => Ans (made i (.tp a.2 b.2)) e ∧ Below w.heap.size w w' := by
  obtain ⟨nb, no, nc, rfl, hnb, hnd⟩ := hN.at hx
  have hil : i < l.length := (List.getElem?_eq_some_iff.1 hx).1
  have hil' : (i : Int) < (l.length : Int) := by omega
  have n0 : w.cell? ⟨cb, 0, none⟩ = some (.slice (some ⟨nb, no, none⟩) l.length nc) := hN.1
  have hcb : cb < w.heap.size := World.block_lt_of_cell? _ _ n0
  have hA : ∀ o, Below w.heap.size w (w.alloc o) := fun o => (Below.refl _ _).alloc (Nat.le_refl _) o
  have e0 : ∀ o, (w.alloc o).cell? ⟨cb, 0, none⟩ = some (.slice (some ⟨nb, no, none⟩) l.length nc) := fun o => ((hA o).cell hcb).trans n0
  have q0 : ∀ o, (w.alloc o).cell? ⟨nb, no + i * 8, none⟩ = some (.int .i8 x.kind) := fun o => ((hA o).cell hnb).trans (hnd 0 _ rfl)
  have q1 : ∀ o, (w.alloc o).cell? ⟨nb, no + i * 8 + 1, none⟩ = some (.int .i64 x.kids) := fun o => ((hA o).cell hnb).trans (hnd 1 _ rfl)
  have q2 : ∀ o, (w.alloc o).cell? ⟨nb, no + i * 8 + 2, none⟩ = some (.int .i64 x.n) := fun o => ((hA o).cell hnb).trans (hnd 2 _ rfl)
  have q3 : ∀ o, (w.alloc o).cell? ⟨nb, no + i * 8 + 3, none⟩ = some (.string x.s) := fun o => ((hA o).cell hnb).trans (hnd 3 _ rfl)
  have q4 : ∀ o, (w.alloc o).cell? ⟨nb, no + i * 8 + 4, none⟩ = some (.string x.t) := fun o => ((hA o).cell hnb).trans (hnd 4 _ rfl)
  have q5 : ∀ o, (w.alloc o).cell? ⟨nb, no + i * 8 + 5, none⟩ = some (.string x.u) := fun o => ((hA o).cell hnb).trans (hnd 5 _ rfl)
  have q6 : ∀ o, (w.alloc o).cell? ⟨nb, no + i * 8 + 6, none⟩ = some (.int .i64 x.ln) := fun o => ((hA o).cell hnb).trans (hnd 6 _ rfl)
  have q7 : ∀ o, (w.alloc o).cell? ⟨nb, no + i * 8 + 7, none⟩ = some (.int .i64 x.co) := fun o => ((hA o).cell hnb).trans (hnd 7 _ rfl)
  obtain ⟨w0, hw0⟩ : ∃ w0, w0 = (w.alloc (.cells #[.int .i64 0, .int .i64 0] 98)).alloc (.cells #[.int .i8 x.kind, .int .i64 x.kids, .int .i64 x.n, .string x.s, .string x.t, .string x.u, .int .i64 x.ln, .int .i64 x.co] 72) := ⟨_, rfl⟩
  have hR : Rl w w0 x := by rw [hw0]; exact Rl.made w x
  obtain ⟨R, hRR⟩ : ∃ R : Rs Ty, R = made i (.tp a.2 b.2) := ⟨_, rfl⟩
  obtain ⟨⟨⟨r0, r1⟩, rz⟩, ⟨d0, d3, d4, d5⟩, -, -⟩ := hR.later (Below.refl _ _)
  obtain ⟨kb, rfl, g0, g1, g2, g3⟩ := hK.at' 0 a rfl
  have hkb : kb < w.heap.size := World.block_lt_of_cell? _ _ g0
  have htb : tb < w.heap.size := World.block_lt_of_cell? _ _ g2
  have hk0 : (a.1 : Int) < (n : Int) := by omega
  obtain ⟨kb', hk2, b0, b1, b2, b3⟩ := hK.at' 1 b rfl
  obtain rfl : kb = kb' := by simpa using hk2
  have hb0 : (b.1 : Int) < (n : Int) := by omega
  have HS : Aside (∀ W : World, Below w0.heap.size w0 W → W.cell? ⟨cb, 1, none⟩ = some (.slice (some ⟨tb, 0, none⟩) n n) ∧ W.cell? ⟨kb, 0, none⟩ = some (.int .i64 (a.1 : Int)) ∧ W.cell? ⟨tb, a.1, none⟩ = some (.string (S (enc a.2))) ∧ W.cell? ⟨kb, 1, none⟩ = some (.int .i64 (b.1 : Int)) ∧ W.cell? ⟨tb, b.1, none⟩ = some (.string (S (enc b.2)))) := fun W hB => by
    have hbw := hR.below.trans (hB.mono (by have := hR.size; omega))
    exact ⟨(hT.below hcb hbw), ((hbw.cell (p := ⟨kb, 0, none⟩) hkb).trans g0), ((hbw.cell (p := ⟨tb, a.1, none⟩) htb).trans g2), ((hbw.cell (p := ⟨kb, 1, none⟩) hkb).trans b0), ((hbw.cell (p := ⟨tb, b.1, none⟩) htb).trans b2)⟩
  have hz := hR.size
  have HS2 : Aside (∀ W : World, (W.cell? ⟨cb, 1, none⟩ = some (.slice (some ⟨tb, 0, none⟩) n n) ∧ W.cell? ⟨kb, 0, none⟩ = some (.int .i64 (a.1 : Int)) ∧ W.cell? ⟨tb, a.1, none⟩ = some (.string (S (enc a.2))) ∧ W.cell? ⟨kb, 1, none⟩ = some (.int .i64 (b.1 : Int)) ∧ W.cell? ⟨tb, b.1, none⟩ = some (.string (S (enc b.2)))) → ∀ p q : Value, ((W.setCell ⟨w.heap.size, 0, none⟩ p).setCell ⟨w.heap.size, 1, none⟩ q).cell? ⟨cb, 1, none⟩ = some (.slice (some ⟨tb, 0, none⟩) n n) ∧ ((W.setCell ⟨w.heap.size, 0, none⟩ p).setCell ⟨w.heap.size, 1, none⟩ q).cell? ⟨kb, 0, none⟩ = some (.int .i64 (a.1 : Int)) ∧ ((W.setCell ⟨w.heap.size, 0, none⟩ p).setCell ⟨w.heap.size, 1, none⟩ q).cell? ⟨tb, a.1, none⟩ = some (.string (S (enc a.2))) ∧ ((W.setCell ⟨w.heap.size, 0, none⟩ p).setCell ⟨w.heap.size, 1, none⟩ q).cell? ⟨kb, 1, none⟩ = some (.int .i64 (b.1 : Int)) ∧ ((W.setCell ⟨w.heap.size, 0, none⟩ p).setCell ⟨w.heap.size, 1, none⟩ q).cell? ⟨tb, b.1, none⟩ = some (.string (S (enc b.2)))) := fun W h p q => ⟨(cell_set2 (by omega)).trans h.1, (cell_set2 (by omega)).trans h.2.1, (cell_set2 (by omega)).trans h.2.2.1, (cell_set2 (by omega)).trans h.2.2.2.1, (cell_set2 (by omega)).trans h.2.2.2.2⟩
  have hS0 := HS.out w0 (Below.refl _ _)
  have hSA := HS.out (w0.alloc (.cells #[.string (S (enc a.2)), .string (S (enc b.2))] 9)) ((Below.refl _ _).alloc (Nat.le_refl _) _)
  have HM : Calls Tryz.prog 145 #[.int .i64 (i : Int), .int .u8 44, .slice (some ⟨w.heap.size + 2, 0, none⟩) 2 2] (w0.alloc (.cells #[.string (S (enc a.2)), .string (S (enc b.2))] 9)).drew fun e w' => Ans R e ∧ Below (w0.alloc (.cells #[.string (S (enc a.2)), .string (S (enc b.2))] 9)).drew.heap.size (w0.alloc (.cells #[.string (S (enc a.2)), .string (S (enc b.2))] 9)).drew w' := by
    rw [hRR, ← hz]
    exact made_any (.tp a.2 b.2) i _ (w0.alloc (.cells #[.string (S (enc a.2)), .string (S (enc b.2))] 9)).drew (by intro u hu; simp [T3.Tp.kids] at hu; rcases hu with rfl | rfl <;> assumption) (T3.texts2 w0 (enc a.2) (enc b.2)) (by simp [T3.Tp.kids])
  have HL : Aside (∀ W, Below w0.heap.size w0 W → _) := fun W hB => hR.later hB
  rw [← hRR]
  have HRR : Aside _ := hRR
  clear hnd n0 hA hRR hT hK hN
  go_enter Tryz.func82, Tryz.ntmps82
  go_upto_region 2 with fail
  rw [hκ] at hw0 d0
  rw [← hw0]
  clear hw0 e0 q0 q1 q2 q3 q4 q5 q6 q7
  clear hR HRR
  generalize S (enc a.2) = sa at *
  generalize S (enc b.2) = sb at *
  go_upto_region 22 with fail
  go_region_held (fun W => W.cell? ⟨cb, 1, none⟩ = some (.slice (some ⟨tb, 0, none⟩) n n) ∧ W.cell? ⟨kb, 0, none⟩ = some (.int .i64 (a.1 : Int)) ∧ W.cell? ⟨tb, a.1, none⟩ = some (.string (sa)) ∧ W.cell? ⟨kb, 1, none⟩ = some (.int .i64 (b.1 : Int)) ∧ W.cell? ⟨tb, b.1, none⟩ = some (.string (sb))) (first | exact hS1 | exact hS0 | exact hSA | exact hS2 _ _ | go_keep) (first | (go_at_call 145; refine HM.mono ?_; rintro e w1 ⟨hans, hB1⟩; have hb1 : Below w0.heap.size w0 w1 := below_unalloc (o := .cells #[.string (sa), .string (sb)] 9) ⟨hB1.os, hB1.tape, hB1.output, hB1.size, hB1.block⟩; have hS1 := HS.out w1 hb1; have hS2 := HS2.out w1 hS1; obtain ⟨⟨⟨m0, m1⟩, mz⟩, -, -, hbf⟩ := HL.out w1 hb1; obtain ⟨s, c, p, rfl⟩ := hans.form))
  all_goals
    go_wp2_with fail
    try simp only [Exit.inBlock, Exit.then]
    refine bodyPost_ret (v := .tuple #[.string s, .agg #[.int .i64 c, .int .i64 p]]) (by simp [results, Tryz.results82, go_sem, m0, m1]) rfl ?_
    exact ⟨hans, hbf _ _⟩
end Go.Proofs.YthdlfeejeboboaaGreatDoor
