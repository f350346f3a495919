/- Package check: the rule of Box. Package check: the rule of Pair. Package check: rule, of any node that may be. -/
import Derived.Test.YthdlfeejeboboaaDoorUam
import Derived.Deep.RegionHeld
import Derived.Test.YthdlfeejeboboaaDoorUac
namespace Go.Proofs.YthdlfeejeboboaaDoor
open Go.RowKit Ck
open T3.Tp (Ty enc cns met)
set_option maxRecDepth 100000
set_option linter.unusedSimpArgs false
set_option maxHeartbeats 8000000 in
theorem rule_box (w : World) (cb tb n i : Nat) (nv kv sv : Value) (l : List Tr.Nd) (x : Tr.Nd) (a : Nat × Ty) (hK : Kds w tb n kv [a]) (hx : l[i]? = some x) (hκ : x.kind = 26) (hN : HasN w cb nv l) (hT : HasT w cb tb n) :
    Calls Tryd.prog 34 #[.pointer (some ⟨cb, 0, none⟩), .int .i64 (i : Int), kv, sv] w fun e w' => Ans (made i (.tx a.2)) e ∧ Below w.heap.size w w' := by
  obtain ⟨nb, no, nc, rfl, hnb, hnd⟩ := hN.at hx
  have hil : i < l.length := (List.getElem?_eq_some_iff.1 hx).1
  have hil' : (i : Int) < (l.length : Int) := by omega
  have n0 : w.cell? ⟨cb, 0, none⟩ = some (.slice (some ⟨nb, no, none⟩) l.length nc) := hN.1
  have hcb : cb < w.heap.size := World.block_lt_of_cell? _ _ n0
  have hA : ∀ o, Below w.heap.size w (w.alloc o) := fun o => (Below.refl _ _).alloc (Nat.le_refl _) o
  have e0 : ∀ o, (w.alloc o).cell? ⟨cb, 0, none⟩ = some (.slice (some ⟨nb, no, none⟩) l.length nc) := fun o => ((hA o).cell hcb).trans n0
  have q0 : ∀ o, (w.alloc o).cell? ⟨nb, no + i * 8, none⟩ = some (.int .i8 x.kind) := fun o => ((hA o).cell hnb).trans (hnd 0 _ rfl)
  have q1 : ∀ o, (w.alloc o).cell? ⟨nb, no + i * 8 + 1, none⟩ = some (.int .i64 x.kids) := fun o => ((hA o).cell hnb).trans (hnd 1 _ rfl)
  have q2 : ∀ o, (w.alloc o).cell? ⟨nb, no + i * 8 + 2, none⟩ = some (.int .i64 x.n) := fun o => ((hA o).cell hnb).trans (hnd 2 _ rfl)
  have q3 : ∀ o, (w.alloc o).cell? ⟨nb, no + i * 8 + 3, none⟩ = some (.string x.s) := fun o => ((hA o).cell hnb).trans (hnd 3 _ rfl)
  have q4 : ∀ o, (w.alloc o).cell? ⟨nb, no + i * 8 + 4, none⟩ = some (.string x.t) := fun o => ((hA o).cell hnb).trans (hnd 4 _ rfl)
  have q5 : ∀ o, (w.alloc o).cell? ⟨nb, no + i * 8 + 5, none⟩ = some (.string x.u) := fun o => ((hA o).cell hnb).trans (hnd 5 _ rfl)
  have q6 : ∀ o, (w.alloc o).cell? ⟨nb, no + i * 8 + 6, none⟩ = some (.int .i64 x.ln) := fun o => ((hA o).cell hnb).trans (hnd 6 _ rfl)
  have q7 : ∀ o, (w.alloc o).cell? ⟨nb, no + i * 8 + 7, none⟩ = some (.int .i64 x.co) := fun o => ((hA o).cell hnb).trans (hnd 7 _ rfl)
  obtain ⟨w0, hw0⟩ : ∃ w0, w0 = (w.alloc (.cells #[.int .i64 0, .int .i64 0] 61)).alloc (.cells #[.int .i8 x.kind, .int .i64 x.kids, .int .i64 x.n, .string x.s, .string x.t, .string x.u, .int .i64 x.ln, .int .i64 x.co] 36) := ⟨_, rfl⟩
  have hR : Rl w w0 x := by rw [hw0]; exact Rl.made w x
  obtain ⟨R, hRR⟩ : ∃ R : Rs Ty, R = made i (.tx a.2) := ⟨_, rfl⟩
  obtain ⟨⟨⟨r0, r1⟩, rz⟩, ⟨d0, d3, d4, d5⟩, -, -⟩ := hR.later (Below.refl _ _)
  obtain ⟨kb, rfl, g0, g1, g2, g3⟩ := hK.at' 0 a rfl
  have hkb : kb < w.heap.size := World.block_lt_of_cell? _ _ g0
  have htb : tb < w.heap.size := World.block_lt_of_cell? _ _ g2
  have hk0 : (a.1 : Int) < (n : Int) := by omega
  have HS : Aside (∀ W : World, Below w0.heap.size w0 W → W.cell? ⟨cb, 1, none⟩ = some (.slice (some ⟨tb, 0, none⟩) n n) ∧ W.cell? ⟨kb, 0, none⟩ = some (.int .i64 (a.1 : Int)) ∧ W.cell? ⟨tb, a.1, none⟩ = some (.string (S (enc a.2)))) := fun W hB => by
    have hbw := hR.below.trans (hB.mono (by have := hR.size; omega))
    exact ⟨(hT.below hcb hbw), ((hbw.cell (p := ⟨kb, 0, none⟩) hkb).trans g0), ((hbw.cell (p := ⟨tb, a.1, none⟩) htb).trans g2)⟩
  have hz := hR.size
  have HS2 : Aside (∀ W : World, (W.cell? ⟨cb, 1, none⟩ = some (.slice (some ⟨tb, 0, none⟩) n n) ∧ W.cell? ⟨kb, 0, none⟩ = some (.int .i64 (a.1 : Int)) ∧ W.cell? ⟨tb, a.1, none⟩ = some (.string (S (enc a.2)))) → ∀ p q : Value, ((W.setCell ⟨w.heap.size, 0, none⟩ p).setCell ⟨w.heap.size, 1, none⟩ q).cell? ⟨cb, 1, none⟩ = some (.slice (some ⟨tb, 0, none⟩) n n) ∧ ((W.setCell ⟨w.heap.size, 0, none⟩ p).setCell ⟨w.heap.size, 1, none⟩ q).cell? ⟨kb, 0, none⟩ = some (.int .i64 (a.1 : Int)) ∧ ((W.setCell ⟨w.heap.size, 0, none⟩ p).setCell ⟨w.heap.size, 1, none⟩ q).cell? ⟨tb, a.1, none⟩ = some (.string (S (enc a.2)))) := fun W h p q => ⟨(cell_set2 (by omega)).trans h.1, (cell_set2 (by omega)).trans h.2.1, (cell_set2 (by omega)).trans h.2.2⟩
  have hS0 := HS.out w0 (Below.refl _ _)
  have hSA := HS.out (w0.alloc (.cells #[.string (S (enc a.2))] 9)) ((Below.refl _ _).alloc (Nat.le_refl _) _)
  have HM : Calls Tryd.prog 53 #[.int .i64 (i : Int), .int .u8 120, .slice (some ⟨w.heap.size + 2, 0, none⟩) 1 1] (w0.alloc (.cells #[.string (S (enc a.2))] 9)).drew fun e w' => Ans R e ∧ Below (w0.alloc (.cells #[.string (S (enc a.2))] 9)).drew.heap.size (w0.alloc (.cells #[.string (S (enc a.2))] 9)).drew w' := by
    rw [hRR, ← hz]
    exact made_any (.tx a.2) i _ (w0.alloc (.cells #[.string (S (enc a.2))] 9)).drew (by intro u hu; simp [T3.Tp.kids] at hu; subst hu; assumption) (T3.texts1 w0 (enc a.2)) (by simp [T3.Tp.kids])
  have HL : Aside (∀ W, Below w0.heap.size w0 W → _) := fun W hB => hR.later hB
  rw [← hRR]
  have HRR : Aside _ := hRR
  clear hnd n0 hA hRR hT hK hN
  go_enter Tryd.func34, Tryd.ntmps34
  go_upto_region 2 with fail
  rw [hκ] at hw0 d0
  rw [← hw0]
  clear hw0 e0 q0 q1 q2 q3 q4 q5 q6 q7
  clear hR HRR
  generalize S (enc a.2) = sa at *
  go_upto_region 24 with fail
  go_region_held (fun W => W.cell? ⟨cb, 1, none⟩ = some (.slice (some ⟨tb, 0, none⟩) n n) ∧ W.cell? ⟨kb, 0, none⟩ = some (.int .i64 (a.1 : Int)) ∧ W.cell? ⟨tb, a.1, none⟩ = some (.string (sa))) (first | exact hS1 | exact hS0 | exact hSA | exact hS2 _ _ | go_keep) (first | (go_at_call 53; refine HM.mono ?_; rintro e w1 ⟨hans, hB1⟩; have hb1 : Below w0.heap.size w0 w1 := below_unalloc (o := .cells #[.string (sa)] 9) ⟨hB1.os, hB1.tape, hB1.output, hB1.size, hB1.block⟩; have hS1 := HS.out w1 hb1; have hS2 := HS2.out w1 hS1; obtain ⟨⟨⟨m0, m1⟩, mz⟩, -, -, hbf⟩ := HL.out w1 hb1; obtain ⟨s, c, p, rfl⟩ := hans.form))
  all_goals
    go_wp2_with fail
    try simp only [Exit.inBlock, Exit.then]
    refine bodyPost_ret (v := .tuple #[.string s, .agg #[.int .i64 c, .int .i64 p]]) (by simp [results, Tryd.results34, go_sem, m0, m1]) rfl ?_
    exact ⟨hans, hbf _ _⟩
end Go.Proofs.YthdlfeejeboboaaDoor
namespace Go.Proofs.YthdlfeejeboboaaDoor
open Go.RowKit Ck
open T3.Tp (Ty enc cns met)
set_option maxRecDepth 100000
set_option linter.unusedSimpArgs false
set_option maxHeartbeats 8000000 in
theorem rule_pair (w : World) (cb tb n i : Nat) (nv kv sv : Value) (l : List Tr.Nd) (x : Tr.Nd) (a b : Nat × Ty) (hK : Kds w tb n kv [a, b]) (hx : l[i]? = some x) (hκ : x.kind = 18) (hN : HasN w cb nv l) (hT : HasT w cb tb n) :
    Calls Tryd.prog 34 #[.pointer (some ⟨cb, 0, none⟩), .int .i64 (i : Int), kv, sv] w fun e w' => Ans (made i (.tp a.2 b.2)) e ∧ Below w.heap.size w w' := by
  obtain ⟨nb, no, nc, rfl, hnb, hnd⟩ := hN.at hx
  have hil : i < l.length := (List.getElem?_eq_some_iff.1 hx).1
  have hil' : (i : Int) < (l.length : Int) := by omega
  have n0 : w.cell? ⟨cb, 0, none⟩ = some (.slice (some ⟨nb, no, none⟩) l.length nc) := hN.1
  have hcb : cb < w.heap.size := World.block_lt_of_cell? _ _ n0
  have hA : ∀ o, Below w.heap.size w (w.alloc o) := fun o => (Below.refl _ _).alloc (Nat.le_refl _) o
  have e0 : ∀ o, (w.alloc o).cell? ⟨cb, 0, none⟩ = some (.slice (some ⟨nb, no, none⟩) l.length nc) := fun o => ((hA o).cell hcb).trans n0
  have q0 : ∀ o, (w.alloc o).cell? ⟨nb, no + i * 8, none⟩ = some (.int .i8 x.kind) := fun o => ((hA o).cell hnb).trans (hnd 0 _ rfl)
  have q1 : ∀ o, (w.alloc o).cell? ⟨nb, no + i * 8 + 1, none⟩ = some (.int .i64 x.kids) := fun o => ((hA o).cell hnb).trans (hnd 1 _ rfl)
  have q2 : ∀ o, (w.alloc o).cell? ⟨nb, no + i * 8 + 2, none⟩ = some (.int .i64 x.n) := fun o => ((hA o).cell hnb).trans (hnd 2 _ rfl)
  have q3 : ∀ o, (w.alloc o).cell? ⟨nb, no + i * 8 + 3, none⟩ = some (.string x.s) := fun o => ((hA o).cell hnb).trans (hnd 3 _ rfl)
  have q4 : ∀ o, (w.alloc o).cell? ⟨nb, no + i * 8 + 4, none⟩ = some (.string x.t) := fun o => ((hA o).cell hnb).trans (hnd 4 _ rfl)
  have q5 : ∀ o, (w.alloc o).cell? ⟨nb, no + i * 8 + 5, none⟩ = some (.string x.u) := fun o => ((hA o).cell hnb).trans (hnd 5 _ rfl)
  have q6 : ∀ o, (w.alloc o).cell? ⟨nb, no + i * 8 + 6, none⟩ = some (.int .i64 x.ln) := fun o => ((hA o).cell hnb).trans (hnd 6 _ rfl)
  have q7 : ∀ o, (w.alloc o).cell? ⟨nb, no + i * 8 + 7, none⟩ = some (.int .i64 x.co) := fun o => ((hA o).cell hnb).trans (hnd 7 _ rfl)
  obtain ⟨w0, hw0⟩ : ∃ w0, w0 = (w.alloc (.cells #[.int .i64 0, .int .i64 0] 61)).alloc (.cells #[.int .i8 x.kind, .int .i64 x.kids, .int .i64 x.n, .string x.s, .string x.t, .string x.u, .int .i64 x.ln, .int .i64 x.co] 36) := ⟨_, rfl⟩
  have hR : Rl w w0 x := by rw [hw0]; exact Rl.made w x
  obtain ⟨R, hRR⟩ : ∃ R : Rs Ty, R = made i (.tp a.2 b.2) := ⟨_, rfl⟩
  obtain ⟨⟨⟨r0, r1⟩, rz⟩, ⟨d0, d3, d4, d5⟩, -, -⟩ := hR.later (Below.refl _ _)
  obtain ⟨kb, rfl, g0, g1, g2, g3⟩ := hK.at' 0 a rfl
  have hkb : kb < w.heap.size := World.block_lt_of_cell? _ _ g0
  have htb : tb < w.heap.size := World.block_lt_of_cell? _ _ g2
  have hk0 : (a.1 : Int) < (n : Int) := by omega
  obtain ⟨kb', hk2, b0, b1, b2, b3⟩ := hK.at' 1 b rfl
  obtain rfl : kb = kb' := by simpa using hk2
  have hb0 : (b.1 : Int) < (n : Int) := by omega
  have HS : Aside (∀ W : World, Below w0.heap.size w0 W → W.cell? ⟨cb, 1, none⟩ = some (.slice (some ⟨tb, 0, none⟩) n n) ∧ W.cell? ⟨kb, 0, none⟩ = some (.int .i64 (a.1 : Int)) ∧ W.cell? ⟨tb, a.1, none⟩ = some (.string (S (enc a.2))) ∧ W.cell? ⟨kb, 1, none⟩ = some (.int .i64 (b.1 : Int)) ∧ W.cell? ⟨tb, b.1, none⟩ = some (.string (S (enc b.2)))) := fun W hB => by
    have hbw := hR.below.trans (hB.mono (by have := hR.size; omega))
    exact ⟨(hT.below hcb hbw), ((hbw.cell (p := ⟨kb, 0, none⟩) hkb).trans g0), ((hbw.cell (p := ⟨tb, a.1, none⟩) htb).trans g2), ((hbw.cell (p := ⟨kb, 1, none⟩) hkb).trans b0), ((hbw.cell (p := ⟨tb, b.1, none⟩) htb).trans b2)⟩
  have hz := hR.size
  have HS2 : Aside (∀ W : World, (W.cell? ⟨cb, 1, none⟩ = some (.slice (some ⟨tb, 0, none⟩) n n) ∧ W.cell? ⟨kb, 0, none⟩ = some (.int .i64 (a.1 : Int)) ∧ W.cell? ⟨tb, a.1, none⟩ = some (.string (S (enc a.2))) ∧ W.cell? ⟨kb, 1, none⟩ = some (.int .i64 (b.1 : Int)) ∧ W.cell? ⟨tb, b.1, none⟩ = some (.string (S (enc b.2)))) → ∀ p q : Value, ((W.setCell ⟨w.heap.size, 0, none⟩ p).setCell ⟨w.heap.size, 1, none⟩ q).cell? ⟨cb, 1, none⟩ = some (.slice (some ⟨tb, 0, none⟩) n n) ∧ ((W.setCell ⟨w.heap.size, 0, none⟩ p).setCell ⟨w.heap.size, 1, none⟩ q).cell? ⟨kb, 0, none⟩ = some (.int .i64 (a.1 : Int)) ∧ ((W.setCell ⟨w.heap.size, 0, none⟩ p).setCell ⟨w.heap.size, 1, none⟩ q).cell? ⟨tb, a.1, none⟩ = some (.string (S (enc a.2))) ∧ ((W.setCell ⟨w.heap.size, 0, none⟩ p).setCell ⟨w.heap.size, 1, none⟩ q).cell? ⟨kb, 1, none⟩ = some (.int .i64 (b.1 : Int)) ∧ ((W.setCell ⟨w.heap.size, 0, none⟩ p).setCell ⟨w.heap.size, 1, none⟩ q).cell? ⟨tb, b.1, none⟩ = some (.string (S (enc b.2)))) := fun W h p q => ⟨(cell_set2 (by omega)).trans h.1, (cell_set2 (by omega)).trans h.2.1, (cell_set2 (by omega)).trans h.2.2.1, (cell_set2 (by omega)).trans h.2.2.2.1, (cell_set2 (by omega)).trans h.2.2.2.2⟩
  have hS0 := HS.out w0 (Below.refl _ _)
  have hSA := HS.out (w0.alloc (.cells #[.string (S (enc a.2)), .string (S (enc b.2))] 9)) ((Below.refl _ _).alloc (Nat.le_refl _) _)
  have HM : Calls Tryd.prog 53 #[.int .i64 (i : Int), .int .u8 44, .slice (some ⟨w.heap.size + 2, 0, none⟩) 2 2] (w0.alloc (.cells #[.string (S (enc a.2)), .string (S (enc b.2))] 9)).drew fun e w' => Ans R e ∧ Below (w0.alloc (.cells #[.string (S (enc a.2)), .string (S (enc b.2))] 9)).drew.heap.size (w0.alloc (.cells #[.string (S (enc a.2)), .string (S (enc b.2))] 9)).drew w' := by
    rw [hRR, ← hz]
    exact made_any (.tp a.2 b.2) i _ (w0.alloc (.cells #[.string (S (enc a.2)), .string (S (enc b.2))] 9)).drew (by intro u hu; simp [T3.Tp.kids] at hu; rcases hu with rfl | rfl <;> assumption) (T3.texts2 w0 (enc a.2) (enc b.2)) (by simp [T3.Tp.kids])
  have HL : Aside (∀ W, Below w0.heap.size w0 W → _) := fun W hB => hR.later hB
  rw [← hRR]
  have HRR : Aside _ := hRR
  clear hnd n0 hA hRR hT hK hN
  go_enter Tryd.func34, Tryd.ntmps34
  go_upto_region 2 with fail
  rw [hκ] at hw0 d0
  rw [← hw0]
  clear hw0 e0 q0 q1 q2 q3 q4 q5 q6 q7
  clear hR HRR
  generalize S (enc a.2) = sa at *
  generalize S (enc b.2) = sb at *
  go_upto_region 22 with fail
  go_region_held (fun W => W.cell? ⟨cb, 1, none⟩ = some (.slice (some ⟨tb, 0, none⟩) n n) ∧ W.cell? ⟨kb, 0, none⟩ = some (.int .i64 (a.1 : Int)) ∧ W.cell? ⟨tb, a.1, none⟩ = some (.string (sa)) ∧ W.cell? ⟨kb, 1, none⟩ = some (.int .i64 (b.1 : Int)) ∧ W.cell? ⟨tb, b.1, none⟩ = some (.string (sb))) (first | exact hS1 | exact hS0 | exact hSA | exact hS2 _ _ | go_keep) (first | (go_at_call 53; refine HM.mono ?_; rintro e w1 ⟨hans, hB1⟩; have hb1 : Below w0.heap.size w0 w1 := below_unalloc (o := .cells #[.string (sa), .string (sb)] 9) ⟨hB1.os, hB1.tape, hB1.output, hB1.size, hB1.block⟩; have hS1 := HS.out w1 hb1; have hS2 := HS2.out w1 hS1; obtain ⟨⟨⟨m0, m1⟩, mz⟩, -, -, hbf⟩ := HL.out w1 hb1; obtain ⟨s, c, p, rfl⟩ := hans.form))
  all_goals
    go_wp2_with fail
    try simp only [Exit.inBlock, Exit.then]
    refine bodyPost_ret (v := .tuple #[.string s, .agg #[.int .i64 c, .int .i64 p]]) (by simp [results, Tryd.results34, go_sem, m0, m1]) rfl ?_
    exact ⟨hans, hbf _ _⟩
end Go.Proofs.YthdlfeejeboboaaDoor
namespace Go.Proofs.YthdlfeejeboboaaDoor
open Go.RowKit Ck
open T3.Tp (Ty enc cns met)
set_option maxRecDepth 100000
set_option linter.unusedSimpArgs false

theorem len_two {α : Type} {l : List α} (h : l.length = 2) : ∃ a b, l = [a, b] := by
  match l, h with
  | [a, b], _ => exact ⟨a, b, rfl⟩
theorem len_three {α : Type} {l : List α} (h : l.length = 3) : ∃ a b c, l = [a, b, c] := by
  match l, h with
  | [a, b, c], _ => exact ⟨a, b, c, rfl⟩
theorem beh_same : ∀ (l : List UInt8) (m : Nat), T3.Tp.beh l m = Tp.beh l m
  | [], 0 => rfl
  | [], _ + 1 => rfl
  | _ :: _, 0 => rfl
  | c :: r, m + 1 => by
    simp only [T3.Tp.beh, Tp.beh]
    rw [beh_same r]
    rfl
theorem chk_same (l : List UInt8) : T3.Tp.chk l = Tp.chk l := by
  unfold T3.Tp.chk Tp.chk
  rw [beh_same]
theorem wr_typ {s : ByteArray} (h : typB s.data.toList = true) : s = S (enc (wr s)) ∧ (enc (wr s)).length ≤ 64 := by
  unfold typB at h
  rw [← chk_same] at h
  obtain ⟨t, h1, h2⟩ := T3.Tp.chk_dec (by simpa using h)
  have hp := T3.Tp.enc_pos t
  have hz : s.size ≠ 0 := by
    intro e
    have : s.data.toList.length = 0 := by rw [str_len, e]
    rw [h1] at this
    omega
  have hw : wr s = t := by unfold wr; rw [if_neg hz, h1, tyOf_enc]
  rw [hw]
  exact ⟨by rw [← h1]; rfl, h2⟩
theorem wr_note {s : ByteArray} (h : noteB s.data.toList = true) : (if s.size = 0 then (⟨#[63]⟩ : ByteArray) else s) = S (enc (wr s)) ∧ (enc (wr s)).length ≤ 64 := by
  by_cases hz : s.size = 0
  · have hw : wr s = .tq := by unfold wr; rw [if_pos hz]
    rw [hw, if_pos hz]
    exact ⟨rfl, by decide⟩
  · rw [if_neg hz]
    refine wr_typ ?_
    unfold noteB at h
    have : s.data.toList.isEmpty = false := by
      cases hl : s.data.toList with
      | nil => exact absurd (by rw [← str_len, hl]; rfl) hz
      | cons a r => rfl
    rw [this] at h
    simpa using h

/-- What a node that may be says of its kind, its kids and its annotations. -/
structure Nod (x : Tr.Nd) (κ : Nat) : Prop where
  kind : x.kind = κ
  lo : 1 ≤ κ
  hi : κ ≤ 29
  kids : κ ≠ 21 → x.kids = Tr.arK κ
  kid0 : 0 ≤ x.kids
  t : (κ = 5 ∨ κ = 6 ∨ κ = 8) → noteB x.t.data.toList = true
  a : κ = 29 → typB x.t.data.toList = true
  u : (κ = 5 ∨ κ = 6) → noteB x.u.data.toList = true
theorem nod_of {x : Tr.Nd} (h : Tr.mayB x = true) : ∃ κ, Nod x κ := by
  unfold Tr.mayB at h
  simp only [Bool.and_eq_true] at h
  obtain ⟨⟨⟨⟨hf, -⟩, -⟩, ht⟩, hu⟩ := h
  have hk : (1 ≤ x.kind ∧ x.kind ≤ 29) ∧ (x.kind ≠ 21 → x.kids = Tr.arK x.kind) ∧ 0 ≤ x.kids := by
    unfold Tr.fitB at hf
    by_cases h21 : x.kind = 21
    · rw [if_pos (by simpa using h21)] at hf
      exact ⟨by omega, fun h => absurd h21 h, by simpa using hf⟩
    · rw [if_neg (by simpa using h21)] at hf
      by_cases h30 : x.kind = 30
      · rw [if_pos (by simpa using h30)] at hf; cases hf
      · rw [if_neg (by simpa using h30)] at hf
        simp [Tr.arF] at hf
        refine ⟨by omega, fun _ => hf.2, ?_⟩
        rw [hf.2]
        unfold Tr.arK
        repeat' split
        all_goals omega
  refine ⟨x.kind.toNat, by omega, by omega, by omega, fun h => ?_, hk.2.2, fun h => ?_, fun h => ?_, fun h => ?_⟩
  · rw [show ((x.kind.toNat : Nat) : Int) = x.kind by omega]; exact hk.2.1 (by omega)
  · unfold Tr.tB at ht
    rw [if_pos (by simp; omega)] at ht
    exact ht
  · unfold Tr.tB at ht
    rw [if_neg (by simp; omega), if_pos (by simp; omega)] at ht
    exact ht
  · unfold Tr.uB at hu
    rw [if_pos (by simp; omega)] at hu
    exact hu

theorem rule_any (w : World) (cb tb n i : Nat) (nv kv sv : Value) (l : List Tr.Nd) (x : Tr.Nd) (κ : Nat) (env : Env) (ks : List (Nat × Ty)) (hN0 : Nod x κ) (hx : l[i]? = some x) (hlen : x.kids = ks.length) (hN : HasN w cb nv l) (hT : HasT w cb tb n) (hK : Kds w tb n kv ks) (hG : HasG w) (hS : Scope cb tb w sv env) (hs : x.s.size ≤ maxLen) (hin : i < n)
    (hti : (κ = 5 ∨ κ = 6) → w.cell? ⟨tb, i, none⟩ = some (.string (S (enc (.tf (wr x.t) (wr x.u)))))) :
    Calls Tryd.prog 34 #[.pointer (some ⟨cb, 0, none⟩), .int .i64 (i : Int), kv, sv] w fun e w' => Ans (Ck.rule env x i ks) e ∧ Below w.heap.size w w' := by
  have hd : κ = 1 ∨ κ = 2 ∨ κ = 3 ∨ κ = 4 ∨ κ = 5 ∨ κ = 6 ∨ κ = 7 ∨ κ = 8 ∨ κ = 9 ∨ κ = 10 ∨ κ = 11 ∨ κ = 12 ∨ κ = 13 ∨ κ = 14 ∨ κ = 15 ∨ κ = 16 ∨ κ = 17 ∨ κ = 18 ∨ κ = 19 ∨ κ = 20 ∨ κ = 21 ∨ κ = 22 ∨ κ = 23 ∨ κ = 24 ∨ κ = 25 ∨ κ = 26 ∨ κ = 27 ∨ κ = 28 ∨ κ = 29 := by have := hN0.lo; have := hN0.hi; omega
  rcases hd with rfl | rfl | rfl | rfl | rfl | rfl | rfl | rfl | rfl | rfl | rfl | rfl | rfl | rfl | rfl | rfl | rfl | rfl | rfl | rfl | rfl | rfl | rfl | rfl | rfl | rfl | rfl | rfl | rfl
  · have hκ : x.kind = 1 := hN0.kind
    have hkd : x.kids = Tr.arK 1 := hN0.kids (by decide)
    have hr : Ck.rule env x i ks = opr (opT (1 : Nat)) ks := by unfold Ck.rule; rw [hκ]; rfl
    rw [hr]
    have h0 : ks = [] := by have e : (ks.length : Int) = 0 := hlen.symm.trans hkd; exact List.length_eq_zero_iff.1 (by omega)
    exact rule_ops w cb tb n i 1 nv kv sv l x ks ([], [105]) hK hG rfl rfl (.inl h0) rfl (by decide) ⟨by decide, by decide, by decide, by decide, by decide, by decide, by decide, by decide, by decide⟩ hx hκ hN hT
  · have hκ : x.kind = 2 := hN0.kind
    have hkd : x.kids = Tr.arK 2 := hN0.kids (by decide)
    have hr : Ck.rule env x i ks = opr (opT (2 : Nat)) ks := by unfold Ck.rule; rw [hκ]; rfl
    rw [hr]
    have h0 : ks = [] := by have e : (ks.length : Int) = 0 := hlen.symm.trans hkd; exact List.length_eq_zero_iff.1 (by omega)
    exact rule_ops w cb tb n i 2 nv kv sv l x ks ([], [116]) hK hG rfl rfl (.inl h0) rfl (by decide) ⟨by decide, by decide, by decide, by decide, by decide, by decide, by decide, by decide, by decide⟩ hx hκ hN hT
  · have hκ : x.kind = 3 := hN0.kind
    have hkd : x.kids = Tr.arK 3 := hN0.kids (by decide)
    have hr : Ck.rule env x i ks = opr (opT (3 : Nat)) ks := by unfold Ck.rule; rw [hκ]; rfl
    rw [hr]
    have h0 : ks = [] := by have e : (ks.length : Int) = 0 := hlen.symm.trans hkd; exact List.length_eq_zero_iff.1 (by omega)
    exact rule_ops w cb tb n i 3 nv kv sv l x ks ([], [98]) hK hG rfl rfl (.inl h0) rfl (by decide) ⟨by decide, by decide, by decide, by decide, by decide, by decide, by decide, by decide, by decide⟩ hx hκ hN hT
  · have hκ : x.kind = 4 := hN0.kind
    have hkd : x.kids = Tr.arK 4 := hN0.kids (by decide)
    have hr : Ck.rule env x i ks = match Ck.look env (Tr.nm x) with | none => .error (22, i) | some t => .ok t := by unfold Ck.rule; rw [hκ]; rfl
    rw [hr]
    exact rule_var w cb tb n i nv kv sv l x env hS hs hx hκ hN hT
  · have hκ : x.kind = 5 := hN0.kind
    have hkd : x.kids = Tr.arK 5 := hN0.kids (by decide)
    obtain ⟨k, rfl⟩ : ∃ k, ks = [k] := List.length_eq_one_iff.1 (by have e : (ks.length : Int) = 1 := hlen.symm.trans hkd; omega)
    have hr : Ck.rule env x i [k] = if cns k.2 (wr x.u) then .ok (.tf (wr x.t) (wr x.u)) else .error (23, k.1) := by unfold Ck.rule; rw [hκ]; rfl
    rw [hr]
    exact rule_fn w cb tb n i nv kv sv l x k hK hin (hti (by decide)) (wr_note (hN0.u (by decide))).1 (wr_note (hN0.u (by decide))).2 hx hκ hN hT
  · have hκ : x.kind = 6 := hN0.kind
    have hkd : x.kids = Tr.arK 6 := hN0.kids (by decide)
    obtain ⟨k, rfl⟩ : ∃ k, ks = [k] := List.length_eq_one_iff.1 (by have e : (ks.length : Int) = 1 := hlen.symm.trans hkd; omega)
    have hr : Ck.rule env x i [k] = if cns k.2 (wr x.u) then .ok (.tf (wr x.t) (wr x.u)) else .error (23, k.1) := by unfold Ck.rule; rw [hκ]; rfl
    rw [hr]
    exact rule_rec w cb tb n i nv kv sv l x k hK hin (hti (by decide)) (wr_note (hN0.u (by decide))).1 (wr_note (hN0.u (by decide))).2 hx hκ hN hT
  · have hκ : x.kind = 7 := hN0.kind
    have hkd : x.kids = Tr.arK 7 := hN0.kids (by decide)
    have hr : Ck.rule env x i ks = use (0, 62, 1) ks := by unfold Ck.rule; rw [hκ]; rfl
    rw [hr]
    obtain ⟨k, hk⟩ : ∃ k, ks[0]? = some k := ⟨_, List.getElem?_eq_getElem (show 0 < ks.length by have e : (ks.length : Int) = Tr.arK 7 := hlen.symm.trans hkd; have e2 : Tr.arK 7 = 2 := rfl; omega)⟩
    exact rule_uses w cb tb n i 7 nv kv sv l x ks (0, 62, [66]) 1 k hK hG rfl rfl hk (.inl rfl) ⟨by decide, by decide, by decide, by decide, by decide, by decide, by decide, by decide, by decide⟩ hx hκ hN hT
  · have hκ : x.kind = 8 := hN0.kind
    have hkd : x.kids = Tr.arK 8 := hN0.kids (by decide)
    obtain ⟨k, b, rfl⟩ : ∃ k b, ks = [k, b] := len_two (by have e : (ks.length : Int) = 2 := hlen.symm.trans hkd; omega)
    have hr : Ck.rule env x i [k, b] = if cns k.2 (wr x.t) then .ok b.2 else .error (23, k.1) := by unfold Ck.rule; rw [hκ]; rfl
    rw [hr]
    exact rule_let w cb tb n i nv kv sv l x k b hK (wr_note (hN0.t (by decide))).1 (wr_note (hN0.t (by decide))).2 hx hκ hN hT
  · have hκ : x.kind = 9 := hN0.kind
    have hkd : x.kids = Tr.arK 9 := hN0.kids (by decide)
    obtain ⟨c, a, b, rfl⟩ : ∃ c a b, ks = [c, a, b] := len_three (by have e : (ks.length : Int) = 3 := hlen.symm.trans hkd; omega)
    have hr : Ck.rule env x i [c, a, b] = if cns c.2 .tb then meetK i a.2 b else .error (23, c.1) := by unfold Ck.rule; rw [hκ]; rfl
    rw [hr]
    exact rule_if w cb tb n i nv kv sv l x c a b hK hx hκ hN hT
  · have hκ : x.kind = 10 := hN0.kind
    have hkd : x.kids = Tr.arK 10 := hN0.kids (by decide)
    have hr : Ck.rule env x i ks = opr (opT (10 : Nat)) ks := by unfold Ck.rule; rw [hκ]; rfl
    rw [hr]
    exact rule_ops w cb tb n i 10 nv kv sv l x ks ([105], [105]) hK hG rfl rfl (.inr rfl) rfl (by decide) ⟨by decide, by decide, by decide, by decide, by decide, by decide, by decide, by decide, by decide⟩ hx hκ hN hT
  · have hκ : x.kind = 11 := hN0.kind
    have hkd : x.kids = Tr.arK 11 := hN0.kids (by decide)
    have hr : Ck.rule env x i ks = opr (opT (11 : Nat)) ks := by unfold Ck.rule; rw [hκ]; rfl
    rw [hr]
    exact rule_ops w cb tb n i 11 nv kv sv l x ks ([105], [105]) hK hG rfl rfl (.inr rfl) rfl (by decide) ⟨by decide, by decide, by decide, by decide, by decide, by decide, by decide, by decide, by decide⟩ hx hκ hN hT
  · have hκ : x.kind = 12 := hN0.kind
    have hkd : x.kids = Tr.arK 12 := hN0.kids (by decide)
    have hr : Ck.rule env x i ks = opr (opT (12 : Nat)) ks := by unfold Ck.rule; rw [hκ]; rfl
    rw [hr]
    exact rule_ops w cb tb n i 12 nv kv sv l x ks ([105], [105]) hK hG rfl rfl (.inr rfl) rfl (by decide) ⟨by decide, by decide, by decide, by decide, by decide, by decide, by decide, by decide, by decide⟩ hx hκ hN hT
  · have hκ : x.kind = 13 := hN0.kind
    have hkd : x.kids = Tr.arK 13 := hN0.kids (by decide)
    have hr : Ck.rule env x i ks = opr (opT (13 : Nat)) ks := by unfold Ck.rule; rw [hκ]; rfl
    rw [hr]
    exact rule_ops w cb tb n i 13 nv kv sv l x ks ([116], [116]) hK hG rfl rfl (.inr rfl) rfl (by decide) ⟨by decide, by decide, by decide, by decide, by decide, by decide, by decide, by decide, by decide⟩ hx hκ hN hT
  · have hκ : x.kind = 14 := hN0.kind
    have hkd : x.kids = Tr.arK 14 := hN0.kids (by decide)
    have hr : Ck.rule env x i ks = opr (opT (14 : Nat)) ks := by unfold Ck.rule; rw [hκ]; rfl
    rw [hr]
    exact rule_ops w cb tb n i 14 nv kv sv l x ks ([105], [98]) hK hG rfl rfl (.inr rfl) rfl (by decide) ⟨by decide, by decide, by decide, by decide, by decide, by decide, by decide, by decide, by decide⟩ hx hκ hN hT
  · have hκ : x.kind = 15 := hN0.kind
    have hkd : x.kids = Tr.arK 15 := hN0.kids (by decide)
    have hr : Ck.rule env x i ks = opr (opT (15 : Nat)) ks := by unfold Ck.rule; rw [hκ]; rfl
    rw [hr]
    exact rule_ops w cb tb n i 15 nv kv sv l x ks ([105], [98]) hK hG rfl rfl (.inr rfl) rfl (by decide) ⟨by decide, by decide, by decide, by decide, by decide, by decide, by decide, by decide, by decide⟩ hx hκ hN hT
  · have hκ : x.kind = 16 := hN0.kind
    have hkd : x.kids = Tr.arK 16 := hN0.kids (by decide)
    have hr : Ck.rule env x i ks = opr (opT (16 : Nat)) ks := by unfold Ck.rule; rw [hκ]; rfl
    rw [hr]
    exact rule_ops w cb tb n i 16 nv kv sv l x ks ([105], [105]) hK hG rfl rfl (.inr rfl) rfl (by decide) ⟨by decide, by decide, by decide, by decide, by decide, by decide, by decide, by decide, by decide⟩ hx hκ hN hT
  · have hκ : x.kind = 17 := hN0.kind
    have hkd : x.kids = Tr.arK 17 := hN0.kids (by decide)
    have hr : Ck.rule env x i ks = opr (opT (17 : Nat)) ks := by unfold Ck.rule; rw [hκ]; rfl
    rw [hr]
    exact rule_ops w cb tb n i 17 nv kv sv l x ks ([116], [105]) hK hG rfl rfl (.inr rfl) rfl (by decide) ⟨by decide, by decide, by decide, by decide, by decide, by decide, by decide, by decide, by decide⟩ hx hκ hN hT
  · have hκ : x.kind = 18 := hN0.kind
    have hkd : x.kids = Tr.arK 18 := hN0.kids (by decide)
    obtain ⟨a, b, rfl⟩ : ∃ a b, ks = [a, b] := len_two (by have e : (ks.length : Int) = 2 := hlen.symm.trans hkd; omega)
    have hr : Ck.rule env x i [a, b] = made i (.tp a.2 b.2) := by unfold Ck.rule; rw [hκ]; rfl
    rw [hr]
    exact rule_pair w cb tb n i nv kv sv l x a b hK hx hκ hN hT
  · have hκ : x.kind = 19 := hN0.kind
    have hkd : x.kids = Tr.arK 19 := hN0.kids (by decide)
    have hr : Ck.rule env x i ks = use (0, 44, 0) ks := by unfold Ck.rule; rw [hκ]; rfl
    rw [hr]
    obtain ⟨k, hk⟩ : ∃ k, ks[0]? = some k := ⟨_, List.getElem?_eq_getElem (show 0 < ks.length by have e : (ks.length : Int) = Tr.arK 19 := hlen.symm.trans hkd; have e2 : Tr.arK 19 = 1 := rfl; omega)⟩
    exact rule_uses w cb tb n i 19 nv kv sv l x ks (0, 44, [65]) 0 k hK hG rfl rfl hk (.inr (.inl rfl)) ⟨by decide, by decide, by decide, by decide, by decide, by decide, by decide, by decide, by decide⟩ hx hκ hN hT
  · have hκ : x.kind = 20 := hN0.kind
    have hkd : x.kids = Tr.arK 20 := hN0.kids (by decide)
    have hr : Ck.rule env x i ks = use (0, 44, 1) ks := by unfold Ck.rule; rw [hκ]; rfl
    rw [hr]
    obtain ⟨k, hk⟩ : ∃ k, ks[0]? = some k := ⟨_, List.getElem?_eq_getElem (show 0 < ks.length by have e : (ks.length : Int) = Tr.arK 20 := hlen.symm.trans hkd; have e2 : Tr.arK 20 = 1 := rfl; omega)⟩
    exact rule_uses w cb tb n i 20 nv kv sv l x ks (0, 44, [66]) 1 k hK hG rfl rfl hk (.inr (.inl rfl)) ⟨by decide, by decide, by decide, by decide, by decide, by decide, by decide, by decide, by decide⟩ hx hκ hN hT
  · have hκ : x.kind = 21 := hN0.kind
    have hr : Ck.rule env x i ks = lst i .tq ks := by unfold Ck.rule; rw [hκ]; rfl
    rw [hr]
    exact rule_list w cb tb n i nv kv sv l x ks hK hx hκ hN hT
  · have hκ : x.kind = 22 := hN0.kind
    have hkd : x.kids = Tr.arK 22 := hN0.kids (by decide)
    have hr : Ck.rule env x i ks = use (0, 108, 0) ks := by unfold Ck.rule; rw [hκ]; rfl
    rw [hr]
    obtain ⟨k, hk⟩ : ∃ k, ks[0]? = some k := ⟨_, List.getElem?_eq_getElem (show 0 < ks.length by have e : (ks.length : Int) = Tr.arK 22 := hlen.symm.trans hkd; have e2 : Tr.arK 22 = 1 := rfl; omega)⟩
    exact rule_uses w cb tb n i 22 nv kv sv l x ks (0, 108, [65]) 0 k hK hG rfl rfl hk (.inr (.inr (.inl rfl))) ⟨by decide, by decide, by decide, by decide, by decide, by decide, by decide, by decide, by decide⟩ hx hκ hN hT
  · have hκ : x.kind = 23 := hN0.kind
    have hkd : x.kids = Tr.arK 23 := hN0.kids (by decide)
    have hr : Ck.rule env x i ks = use (0, 108, 2) ks := by unfold Ck.rule; rw [hκ]; rfl
    rw [hr]
    obtain ⟨k, hk⟩ : ∃ k, ks[0]? = some k := ⟨_, List.getElem?_eq_getElem (show 0 < ks.length by have e : (ks.length : Int) = Tr.arK 23 := hlen.symm.trans hkd; have e2 : Tr.arK 23 = 1 := rfl; omega)⟩
    exact rule_uses w cb tb n i 23 nv kv sv l x ks (0, 108, [108, 65]) 2 k hK hG rfl rfl hk (.inr (.inr (.inl rfl))) ⟨by decide, by decide, by decide, by decide, by decide, by decide, by decide, by decide, by decide⟩ hx hκ hN hT
  · have hκ : x.kind = 24 := hN0.kind
    have hkd : x.kids = Tr.arK 24 := hN0.kids (by decide)
    have hr : Ck.rule env x i ks = use (0, 108, 3) ks := by unfold Ck.rule; rw [hκ]; rfl
    rw [hr]
    obtain ⟨k, hk⟩ : ∃ k, ks[0]? = some k := ⟨_, List.getElem?_eq_getElem (show 0 < ks.length by have e : (ks.length : Int) = Tr.arK 24 := hlen.symm.trans hkd; have e2 : Tr.arK 24 = 1 := rfl; omega)⟩
    exact rule_uses w cb tb n i 24 nv kv sv l x ks (0, 108, [98]) 3 k hK hG rfl rfl hk (.inr (.inr (.inl rfl))) ⟨by decide, by decide, by decide, by decide, by decide, by decide, by decide, by decide, by decide⟩ hx hκ hN hT
  · have hκ : x.kind = 25 := hN0.kind
    have hkd : x.kids = Tr.arK 25 := hN0.kids (by decide)
    have hr : Ck.rule env x i ks = use (1, 108, 2) ks := by unfold Ck.rule; rw [hκ]; rfl
    rw [hr]
    obtain ⟨k, hk⟩ : ∃ k, ks[1]? = some k := ⟨_, List.getElem?_eq_getElem (show 1 < ks.length by have e : (ks.length : Int) = Tr.arK 25 := hlen.symm.trans hkd; have e2 : Tr.arK 25 = 2 := rfl; omega)⟩
    exact rule_uses w cb tb n i 25 nv kv sv l x ks (1, 108, [108, 65]) 2 k hK hG rfl rfl hk (.inr (.inr (.inl rfl))) ⟨by decide, by decide, by decide, by decide, by decide, by decide, by decide, by decide, by decide⟩ hx hκ hN hT
  · have hκ : x.kind = 26 := hN0.kind
    have hkd : x.kids = Tr.arK 26 := hN0.kids (by decide)
    obtain ⟨a, rfl⟩ : ∃ a, ks = [a] := List.length_eq_one_iff.1 (by have e : (ks.length : Int) = 1 := hlen.symm.trans hkd; omega)
    have hr : Ck.rule env x i [a] = made i (.tx a.2) := by unfold Ck.rule; rw [hκ]; rfl
    rw [hr]
    exact rule_box w cb tb n i nv kv sv l x a hK hx hκ hN hT
  · have hκ : x.kind = 27 := hN0.kind
    have hkd : x.kids = Tr.arK 27 := hN0.kids (by decide)
    have hr : Ck.rule env x i ks = use (0, 120, 0) ks := by unfold Ck.rule; rw [hκ]; rfl
    rw [hr]
    obtain ⟨k, hk⟩ : ∃ k, ks[0]? = some k := ⟨_, List.getElem?_eq_getElem (show 0 < ks.length by have e : (ks.length : Int) = Tr.arK 27 := hlen.symm.trans hkd; have e2 : Tr.arK 27 = 1 := rfl; omega)⟩
    exact rule_uses w cb tb n i 27 nv kv sv l x ks (0, 120, [65]) 0 k hK hG rfl rfl hk (.inr (.inr (.inr rfl))) ⟨by decide, by decide, by decide, by decide, by decide, by decide, by decide, by decide, by decide⟩ hx hκ hN hT
  · have hκ : x.kind = 28 := hN0.kind
    have hkd : x.kids = Tr.arK 28 := hN0.kids (by decide)
    have hr : Ck.rule env x i ks = use (0, 120, 0) ks := by unfold Ck.rule; rw [hκ]; rfl
    rw [hr]
    obtain ⟨k, hk⟩ : ∃ k, ks[0]? = some k := ⟨_, List.getElem?_eq_getElem (show 0 < ks.length by have e : (ks.length : Int) = Tr.arK 28 := hlen.symm.trans hkd; have e2 : Tr.arK 28 = 2 := rfl; omega)⟩
    exact rule_uses w cb tb n i 28 nv kv sv l x ks (0, 120, [65]) 0 k hK hG rfl rfl hk (.inr (.inr (.inr rfl))) ⟨by decide, by decide, by decide, by decide, by decide, by decide, by decide, by decide, by decide⟩ hx hκ hN hT
  · have hκ : x.kind = 29 := hN0.kind
    have hkd : x.kids = Tr.arK 29 := hN0.kids (by decide)
    obtain ⟨k, rfl⟩ : ∃ k, ks = [k] := List.length_eq_one_iff.1 (by have e : (ks.length : Int) = 1 := hlen.symm.trans hkd; omega)
    have hr : Ck.rule env x i [k] = if cns k.2 (wr x.t) then .ok (wr x.t) else .error (23, i) := by unfold Ck.rule; rw [hκ]; rfl
    rw [hr]
    exact rule_as w cb tb n i nv kv sv l x k hK (wr_typ (hN0.a rfl)).1 (wr_typ (hN0.a rfl)).2 hx hκ hN hT
end Go.Proofs.YthdlfeejeboboaaDoor
