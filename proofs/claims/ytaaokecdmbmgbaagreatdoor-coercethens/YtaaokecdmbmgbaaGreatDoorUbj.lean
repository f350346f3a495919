/- The document's Meets: Both, its kids. The document's Both, whole. -/
import Derived.Test.YtaaokecdmbmgbaaGreatDoorUbh
import Derived.Test.YtaaokecdmbmgbaaGreatDoorUbi
import Derived.StillTailTactics
namespace Go.Proofs.YtaaokecdmbmgbaaGreatDoor
open Go.RowKit Cc
set_option maxRecDepth 100000
set_option linter.unusedSimpArgs false
set_option linter.unusedVariables false
theorem step_app8 {ops : Array Oper} {o : Oper} {a : Act} {K : Act → World → Prop} {Q : Exit → Act → World → Prop} {E : Prop} (hgd : o.guard = none) (s x : Operand)
    (ho : o.op = .call { callee := .builtin .append, args := #[s, x], argTypes := #[29, 29] }) (base : Nat) (w : World) (lv : Value) (ks : List (C × Value)) (hs : a.eval s = lv) (hO : w.ownsRow base 31 8 lv ks.length (drow ks)) (hB : base ≤ w.heap.size)
    (b c : Nat) (d : C) (da : Option Addr) (dn dc : Nat) (hx : a.eval x = .slice (some ⟨b, 0, none⟩) 1 c) (hc : w.heap[b]? = some (.cells (tcells (nod d) (.slice da dn dc)) 31 (0, 0))) (hlen : ks.length ≤ 2) (H : Nat) (hH : w.heap.size = H)
    (h : ∀ g cap w', w'.ownsRow base 31 8 (.slice (some ⟨g, 0, none⟩) (ks.length + 1) cap) (ks.length + 1) (drow ks ++ drow [(d, .slice da dn dc)]) → w.grownBy w' lv.ownBlock → (lv.ownBlock = some g ∨ g = H) → g < w'.heap.size → K (a.put o.dst (.slice (some ⟨g, 0, none⟩) (ks.length + 1) cap)) w') :
    if Region.wanted o (yielded ops a.tmps) = true then Oper.wp Tryz.prog o a w K Q else E := by
  obtain ⟨i0, hi0, hz0, hz1, hz2⟩ := info_parts infoTree
  exact step_append_lies w hgd s x 29 ho base 31 i0 _ 8 64 tyTrees hi0 hz0 hz1 hz2 rfl (by decide) lv ks.length (drow ks) hs hO ⟨b, 0, none⟩ 1 c (drow [(d, .slice da dn dc)]) hx (by rw [drow_len]; rfl) (World.news_of_block hc) (drow_one d da dn dc) (by decide) (by unfold maxLen; omega) (by omega) hB H hH h
theorem cell_al {w0 w : World} {L B6 B8 base : Nat} {x : N} {kv : Value} {ks : List (C × Value)} (h : Bk w0 w L B6 B8 base x kv ks) (o : Obj) : (w.alloc o).cell? ⟨B8, 7, none⟩ = some kv := by
  have hA : Below w.heap.size w (w.alloc o) := (Below.refl _ _).alloc (Nat.le_refl _) _
  exact (tcells_at ((hA.block B8 h.size).trans h.h8)).1.2.2.2.2.2.2.2
theorem own_hv {g q n c H : Nat} {lv : Option Nat} (h : lv = some g ∨ g = H) (e : (Value.slice (some ⟨g, 0, none⟩) n c).ownBlock = some q) : lv = some q ∨ q = H := by
  obtain rfl : g = q := by simpa [Value.ownBlock] using e
  exact h
/-- The tree's cell, behind an append to its kids. -/
theorem head9 {w0 w w' : World} {L B6 B8 base : Nat} {x : N} {kv : Value} {ks : List (C × Value)} {o : Obj} (h : Bk w0 w L B6 B8 base x kv ks) (hg : (w.alloc o).grownBy w' kv.ownBlock) :
    w'.frozen? ⟨B8, 7, none⟩ = false ∧ w'.cell? ⟨B8, 7, none⟩ = some kv := by
  have hA : Below w.heap.size w (w.alloc o) := (Below.refl _ _).alloc (Nat.le_refl _) _
  have lt := World.ownsRow.lt h.own
  have hz := h.size
  have l8 := h.l8b
  have e : w'.heap[B8]? = some (.cells (tcells x kv) 31 (0, 0)) := (hg.block B8 (by have := hA.size; omega) (fun e => by have := (lt B8 e.symm).1; omega)).trans ((hA.block B8 hz).trans h.h8)
  exact ⟨(tcells_at e).2.2.2.2.2.2.2.2, (tcells_at e).1.2.2.2.2.2.2.2⟩
set_option maxHeartbeats 12800000 in
theorem bo_loop (s t : C) (sa ta : Option Addr) (n sc tc : Nat) (ksS ksT : List (C × Value)) (w : World) (L : Nat) (hL : L ≤ w.heap.size)
    (hn : ksS.length = n) (hm : ksT.length = n) (hn2 : n ≤ 2) (hrl : (kidsC (thn s t)).length = n) (hnod : nod (thn s t) = ⟨(nod s).op, (nod s).proj, (nod t).inj, (nod s).head, 0, 0, 0⟩)
    (h7 : (nod s).op ≠ 7) (h1 : (nod s).op ≠ 1) (g7 : (nod t).op ≠ 7) (g1 : (nod t).op ≠ 1) (hh : (nod s).head = (nod t).head)
    (hs : ksS ≠ [] → ∃ g, sa = some ⟨g, 0, none⟩ ∧ g < L ∧ Row8 w g ksS) (ht : ksT ≠ [] → ∃ g, ta = some ⟨g, 0, none⟩ ∧ g < L ∧ Row8 w g ksT)
    (hf : ∀ k ∈ ksS, ∃ a n c, k.2 = .slice a n c) (gf : ∀ k ∈ ksT, ∃ a n c, k.2 = .slice a n c)
    (hK : ∀ (k : Nat) (a : C) (ka : Value) (c : C) (kc : Value), ksS[k]? = some (a, ka) → ksT[k]? = some (c, kc) → ∃ d, (kidsC (thn s t))[k]? = some d ∧ ∀ W, Below w.heap.size w W →
      Calls Tryz.prog 31 (if trn (nod s).op k then #[tree (nod c) kc, tree (nod a) ka] else #[tree (nod a) ka, tree (nod c) kc]) W fun e w' => BoE L W d e w' ∧ Below W.heap.size W w') :
    Calls Tryz.prog 31 #[tree (nod s) (.slice sa n sc), tree (nod t) (.slice ta n tc)] w fun e w' => BoE L w (thn s t) e w' ∧ Below w.heap.size w w' := by
  have ce := dends_any s sa n sc
  rw [show ((decide ((nod s).op = 1) || (nod s).inj) = fin0 (nod s)) from rfl] at ce
  generalize fin0 (nod s) = EN at *
  obtain ⟨R, hR⟩ : ∃ R, R = thn s t := ⟨_, rfl⟩
  rw [← hR] at hrl hnod hK ⊢
  clear hR
  generalize nod s = x at *
  generalize nod t = y at *
  have hs7' : (x.op == 7) = false := by simpa using h7
  have hs1' : (x.op == 1) = false := by simpa using h1
  have ht7' : (y.op == 7) = false := by simpa using g7
  have ht1' : (y.op == 1) = false := by simpa using g1
  have hh' : (x.head != y.head) = false := by simpa using hh
  have HS : Aside (ksS ≠ [] → ∃ g, sa = some ⟨g, 0, none⟩ ∧ g < L ∧ Row8 w g ksS) := hs
  have HTt : Aside (ksT ≠ [] → ∃ g, ta = some ⟨g, 0, none⟩ ∧ g < L ∧ Row8 w g ksT) := ht
  have HF : Aside (∀ k ∈ ksS, ∃ a n c, k.2 = .slice a n c) := hf
  have GF : Aside (∀ k ∈ ksT, ∃ a n c, k.2 = .slice a n c) := gf
  have HKc : Aside (∀ (k : Nat) (a : C) (ka : Value) (c : C) (kc : Value), ksS[k]? = some (a, ka) → ksT[k]? = some (c, kc) → ∃ d, (kidsC R)[k]? = some d ∧ ∀ W, Below w.heap.size w W →
      Calls Tryz.prog 31 (if trn x.op k then #[tree (nod c) kc, tree (nod a) ka] else #[tree (nod a) ka, tree (nod c) kc]) W fun e w' => BoE L W d e w' ∧ Below W.heap.size W w') := hK
  have HN : Aside (nod R = ⟨x.op, x.proj, y.inj, x.head, 0, 0, 0⟩) := hnod
  have HRL : Aside ((kidsC R).length = n) := hrl
  have hn9 : (n : Int) ≤ 2 := by omega
  clear h7 h1 g7 g1 hh hs ht hf gf hK hnod hrl
  go_enter Tryz.func31, Tryz.ntmps31
  go_upto_region 1 with fail
  obtain ⟨W0, hW0⟩ : ∃ W0, W0 = ((w.alloc (.cells #[.int .i8 x.op, .int .i64 x.proj, .bool x.inj, .int .u8 x.head, .int .i64 x.label, .int .u8 x.frm, .int .u8 x.tto, .slice sa n sc] 31)).alloc (.cells #[.int .i8 y.op, .int .i64 y.proj, .bool y.inj, .int .u8 y.head, .int .i64 y.label, .int .u8 y.frm, .int .u8 y.tto, .slice ta n tc] 31)).alloc (.cells #[.int .i8 0, .int .i64 0, .bool false, .int .u8 0, .int .i64 0, .int .u8 0, .int .u8 0, .slice none 0 0] 31) := ⟨_, rfl⟩
  have hB0 : Below w.heap.size w W0 := by rw [hW0]; exact below_al (below_al (below_al (Below.refl _ _) (Nat.le_refl _) _) (by simp) _) (by simp; omega) _
  have hS0 : W0.heap[w.heap.size]? = some (.cells (tcells x (.slice sa n sc)) 31 (0, 0)) := by
    rw [hW0]
    exact ((below_al (below_al (Below.refl _ _) (Nat.le_refl _) _) (by simp) _ : Below (w.alloc (.cells #[.int .i8 x.op, .int .i64 x.proj, .bool x.inj, .int .u8 x.head, .int .i64 x.label, .int .u8 x.frm, .int .u8 x.tto, .slice sa n sc] 31)).heap.size (w.alloc (.cells #[.int .i8 x.op, .int .i64 x.proj, .bool x.inj, .int .u8 x.head, .int .i64 x.label, .int .u8 x.frm, .int .u8 x.tto, .slice sa n sc] 31)) (((w.alloc (.cells #[.int .i8 x.op, .int .i64 x.proj, .bool x.inj, .int .u8 x.head, .int .i64 x.label, .int .u8 x.frm, .int .u8 x.tto, .slice sa n sc] 31)).alloc (.cells #[.int .i8 y.op, .int .i64 y.proj, .bool y.inj, .int .u8 y.head, .int .i64 y.label, .int .u8 y.frm, .int .u8 y.tto, .slice ta n tc] 31)).alloc (.cells #[.int .i8 0, .int .i64 0, .bool false, .int .u8 0, .int .i64 0, .int .u8 0, .int .u8 0, .slice none 0 0] 31))).block w.heap.size (by simp)).trans (heap_top w _)
  have hS1 : W0.heap[w.heap.size + 1]? = some (.cells (tcells y (.slice ta n tc)) 31 (0, 0)) := by
    rw [hW0]
    have := ((below_al (Below.refl _ _) (Nat.le_refl _) _ : Below ((w.alloc (.cells #[.int .i8 x.op, .int .i64 x.proj, .bool x.inj, .int .u8 x.head, .int .i64 x.label, .int .u8 x.frm, .int .u8 x.tto, .slice sa n sc] 31)).alloc (.cells #[.int .i8 y.op, .int .i64 y.proj, .bool y.inj, .int .u8 y.head, .int .i64 y.label, .int .u8 y.frm, .int .u8 y.tto, .slice ta n tc] 31)).heap.size ((w.alloc (.cells #[.int .i8 x.op, .int .i64 x.proj, .bool x.inj, .int .u8 x.head, .int .i64 x.label, .int .u8 x.frm, .int .u8 x.tto, .slice sa n sc] 31)).alloc (.cells #[.int .i8 y.op, .int .i64 y.proj, .bool y.inj, .int .u8 y.head, .int .i64 y.label, .int .u8 y.frm, .int .u8 y.tto, .slice ta n tc] 31)) (((w.alloc (.cells #[.int .i8 x.op, .int .i64 x.proj, .bool x.inj, .int .u8 x.head, .int .i64 x.label, .int .u8 x.frm, .int .u8 x.tto, .slice sa n sc] 31)).alloc (.cells #[.int .i8 y.op, .int .i64 y.proj, .bool y.inj, .int .u8 y.head, .int .i64 y.label, .int .u8 y.frm, .int .u8 y.tto, .slice ta n tc] 31)).alloc (.cells #[.int .i8 0, .int .i64 0, .bool false, .int .u8 0, .int .i64 0, .int .u8 0, .int .u8 0, .slice none 0 0] 31))).block (w.alloc (.cells #[.int .i8 x.op, .int .i64 x.proj, .bool x.inj, .int .u8 x.head, .int .i64 x.label, .int .u8 x.frm, .int .u8 x.tto, .slice sa n sc] 31)).heap.size (by simp)).trans (heap_top (w.alloc (.cells #[.int .i8 x.op, .int .i64 x.proj, .bool x.inj, .int .u8 x.head, .int .i64 x.label, .int .u8 x.frm, .int .u8 x.tto, .slice sa n sc] 31)) _)
    rw [show (w.alloc (.cells #[.int .i8 x.op, .int .i64 x.proj, .bool x.inj, .int .u8 x.head, .int .i64 x.label, .int .u8 x.frm, .int .u8 x.tto, .slice sa n sc] 31)).heap.size = w.heap.size + 1 by simp] at this
    exact this
  have hZ0 : W0.heap[w.heap.size + 2]? = some (.cells (tcells ⟨0, 0, false, 0, 0, 0, 0⟩ (.slice none 0 0)) 31 (0, 0)) := by
    rw [hW0]
    have := heap_top ((w.alloc (.cells #[.int .i8 x.op, .int .i64 x.proj, .bool x.inj, .int .u8 x.head, .int .i64 x.label, .int .u8 x.frm, .int .u8 x.tto, .slice sa n sc] 31)).alloc (.cells #[.int .i8 y.op, .int .i64 y.proj, .bool y.inj, .int .u8 y.head, .int .i64 y.label, .int .u8 y.frm, .int .u8 y.tto, .slice ta n tc] 31)) (.cells #[.int .i8 0, .int .i64 0, .bool false, .int .u8 0, .int .i64 0, .int .u8 0, .int .u8 0, .slice none 0 0] 31)
    rw [show ((w.alloc (.cells #[.int .i8 x.op, .int .i64 x.proj, .bool x.inj, .int .u8 x.head, .int .i64 x.label, .int .u8 x.frm, .int .u8 x.tto, .slice sa n sc] 31)).alloc (.cells #[.int .i8 y.op, .int .i64 y.proj, .bool y.inj, .int .u8 y.head, .int .i64 y.label, .int .u8 y.frm, .int .u8 y.tto, .slice ta n tc] 31)).heap.size = w.heap.size + 2 by simp] at this
    exact this
  have hK9 : w.heap.size + 2 < W0.heap.size := by rw [hW0]; simp
  have hY0 : W0.frozen? ⟨w.heap.size + 1, 1, none⟩ = false := (tcells_at hS1).2.2.1
  have HT : Aside (∀ W, Below W0.heap.size W0 W → (W.cell? ⟨w.heap.size, 0, none⟩ = some (.int .i8 x.op) ∧ W.cell? ⟨w.heap.size, 1, none⟩ = some (.int .i64 x.proj) ∧ W.cell? ⟨w.heap.size, 2, none⟩ = some (.bool x.inj) ∧ W.cell? ⟨w.heap.size, 3, none⟩ = some (.int .u8 x.head) ∧ W.cell? ⟨w.heap.size, 4, none⟩ = some (.int .i64 x.label) ∧ W.cell? ⟨w.heap.size, 5, none⟩ = some (.int .u8 x.frm) ∧ W.cell? ⟨w.heap.size, 6, none⟩ = some (.int .u8 x.tto) ∧ W.cell? ⟨w.heap.size, 7, none⟩ = some (.slice sa n sc) ∧ W.cell? ⟨w.heap.size + 1, 0, none⟩ = some (.int .i8 y.op) ∧ W.cell? ⟨w.heap.size + 1, 1, none⟩ = some (.int .i64 y.proj) ∧ W.cell? ⟨w.heap.size + 1, 2, none⟩ = some (.bool y.inj) ∧ W.cell? ⟨w.heap.size + 1, 3, none⟩ = some (.int .u8 y.head) ∧ W.cell? ⟨w.heap.size + 1, 4, none⟩ = some (.int .i64 y.label) ∧ W.cell? ⟨w.heap.size + 1, 5, none⟩ = some (.int .u8 y.frm) ∧ W.cell? ⟨w.heap.size + 1, 6, none⟩ = some (.int .u8 y.tto) ∧ W.cell? ⟨w.heap.size + 1, 7, none⟩ = some (.slice ta n tc))) := fun W h => by
    obtain ⟨a0, a1, a2, a3, a4, a5, a6, a7⟩ := (tcells_at ((h.block w.heap.size (by omega)).trans hS0)).1
    obtain ⟨b0, b1, b2, b3, b4, b5, b6, b7⟩ := (tcells_at ((h.block (w.heap.size + 1) (by omega)).trans hS1)).1
    exact ⟨a0, a1, a2, a3, a4, a5, a6, a7, b0, b1, b2, b3, b4, b5, b6, b7⟩
  clear hS0 hS1
  rw [← hW0]
  clear hW0
  obtain ⟨K2, hK2⟩ : ∃ K2, K2 = w.heap.size + 2 := ⟨_, rfl⟩
  rw [← hK2] at hZ0 hK9 ⊢
  obtain ⟨K1, hK1⟩ : ∃ K1, K1 = w.heap.size + 1 := ⟨_, rfl⟩
  rw [← hK1] at HT hY0 ⊢
  obtain ⟨K0, hK0⟩ : ∃ K0, K0 = w.heap.size := ⟨_, rfl⟩
  rw [← hK0] at HT
  rw [← hK0]
  have HK : Aside (K0 = w.heap.size ∧ K1 = w.heap.size + 1 ∧ K2 = w.heap.size + 2 ∧ K2 < W0.heap.size) := ⟨hK0, hK1, hK2, hK9⟩
  have h12 : K1 ≠ K2 := by omega
  have h21 : K2 ≠ K1 := by omega
  have h01 : K0 ≠ K1 := by omega
  have h10 : K1 ≠ K0 := by omega
  have h02 : K0 ≠ K2 := by omega
  have h20 : K2 ≠ K0 := by omega
  have HB0 : Aside (Below w.heap.size w W0) := hB0
  have HZ : Aside (∀ W, Below W0.heap.size W0 W → W.heap[K2]? = some (.cells (tcells ⟨0, 0, false, 0, 0, 0, 0⟩ (.slice none 0 0)) 31 (0, 0))) := fun W h => (h.block K2 hK9).trans hZ0
  have HY : Aside (∀ W, Below W0.heap.size W0 W → W.frozen? ⟨K1, 1, none⟩ = false) := fun W h => (h.frozen (p := ⟨K1, 1, none⟩) (by show K1 < W0.heap.size; omega)).trans hY0
  clear hB0 hK0 hK1 hK2 hZ0 hK9 hY0
  obtain ⟨s0, s1, s2, s3, s4, s5, s6, s7, t0, t1, t2, t3, t4, t5, t6, t7⟩ := HT.out W0 (Below.refl _ _)
  have HX : Aside (∀ W, Below W0.heap.size W0 W → Bk W0 (W.alloc (.cells #[.int .i8 x.op, .int .i64 x.proj, .bool y.inj, .int .u8 x.head, .int .i64 0, .int .u8 0, .int .u8 0, .slice none 0 0] 31)) L K2 W.heap.size (W.heap.size + 1) ⟨x.op, x.proj, y.inj, x.head, 0, 0, 0⟩ (.slice none 0 0) []) := fun W hW => by
    have hk := HK.out
    have hsz := hW.size
    have hA : Below W.heap.size W (W.alloc (.cells #[.int .i8 x.op, .int .i64 x.proj, .bool y.inj, .int .u8 x.head, .int .i64 0, .int .u8 0, .int .u8 0, .slice none 0 0] 31)) := (Below.refl _ _).alloc (Nat.le_refl _) _
    exact ⟨hW.trans (hA.mono hW.size), (hA.block K2 (by omega)).trans (HZ.out W hW), heap_top W _, by omega, by omega, by omega, by omega, by simp, World.ownsRow_nil _ _ _ _, by simp, fun _ => rfl⟩
  cases EN
  all_goals
    go_wp2_with (go_at_call 25; refine (ce _).mono ?_; rintro e w2 ⟨rfl, hB2⟩; clear s0 s1 s2 s3 s4 s5 s6 s7 t0 t1 t2 t3 t4 t5 t6 t7; obtain ⟨s0, s1, s2, s3, s4, s5, s6, s7, t0, t1, t2, t3, t4, t5, t6, t7⟩ := HT.out w2 hB2)
    have HB5 := HX.out w2 hB2
    obtain ⟨B5, hB5⟩ : ∃ B5, B5 = w2.heap.size := ⟨_, rfl⟩
    rw [← hB5] at HB5 ⊢
    have HB5 : Aside _ := HB5
    clear s0 s1 s2 s3 s4 s5 s6 s7 t0 t1 t2 t3 t4 t5 t6 t7 ce hB2 hB5 HX
    go_loopg [6] n (fun gq v6 wr => ∃ (k : Nat) (ks : List (C × Value)) (oa : Option Addr) (on oc : Nat), k + gq = n ∧ v6 = .int .i64 (k : Int) ∧ Aside (ks.length = k) ∧ Aside (ks.map Prod.fst = (kidsC R).take k) ∧ Aside (Bk W0 wr L K2 B5 (B5 + 1) ⟨x.op, x.proj, y.inj, x.head, 0, 0, 0⟩ (.slice oa on oc) ks))
    case atStart => exact ⟨0, [], none, 0, 0, by omega, rfl, rfl, by simp [Aside], HB5⟩
    case round =>
      obtain ⟨k, ks, oa, on, oc, hkg, rfl, HL, HM, HBk⟩ := hrel
      clear HB5
      obtain ⟨s0, s1, s2, s3, s4, s5, s6, s7, t0, t1, t2, t3, t4, t5, t6, t7⟩ := HT.out wr HBk.out.bl
      have hk9 : (0 : Int) ≤ (k : Int) := by omega
      obtain ⟨⟨c0, c1, c2, c3, c4, c5, c6, c7⟩, -⟩ := tcells_at HBk.out.h8
      by_cases hk : k < n
      · have hk' : (k : Int) < (n : Int) := by omega
        clear c0 c1 c2 c3 c4 c5 c6
        obtain ⟨⟨a, ka⟩, hx⟩ : ∃ z, ksS[k]? = some z := ⟨_, List.getElem?_eq_getElem (by omega)⟩
        obtain ⟨⟨c, kc⟩, hy⟩ : ∃ z, ksT[k]? = some z := ⟨_, List.getElem?_eq_getElem (by omega)⟩
        obtain ⟨g, rfl, hg, hR8⟩ := HS.out (by rintro rfl; simp at hx)
        obtain ⟨g', rfl, hg', hR8'⟩ := HTt.out (by rintro rfl; simp at hy)
        obtain ⟨ka0, ka1, ka2, hka⟩ := HF.out _ (List.mem_of_getElem? hx)
        obtain ⟨kc0, kc1, kc2, hkc⟩ := GF.out _ (List.mem_of_getElem? hy)
        simp only at hka hkc
        subst hka hkc
        have hA := hR8.at hx
        have hD := hR8'.at hy
        obtain ⟨d, hd, hcall⟩ := HKc.out k _ _ _ _ hx hy
        have HM1 : Aside (∀ kd, (ks ++ [(d, kd)]).map Prod.fst = (kidsC R).take (k + 1)) := fun kd => by
          rw [List.map_append, HM.out, List.take_add_one, hd]; rfl
        have hct := dturned_any x.op (k : Int)
        generalize nod a = xa at *
        generalize nod c = xc at *
        have hS : Aside (∀ W, Below B5 wr W → W.cell? ⟨K0, 7, none⟩ = some (.slice (some ⟨g, 0, none⟩) n sc) ∧ W.cell? ⟨K1, 7, none⟩ = some (.slice (some ⟨g', 0, none⟩) n tc) ∧ W.cell? ⟨g, k * 8, none⟩ = some (.int .i8 xa.op) ∧ W.cell? ⟨g, k * 8 + 1, none⟩ = some (.int .i64 xa.proj) ∧ W.cell? ⟨g, k * 8 + 2, none⟩ = some (.bool xa.inj) ∧ W.cell? ⟨g, k * 8 + 3, none⟩ = some (.int .u8 xa.head) ∧ W.cell? ⟨g, k * 8 + 4, none⟩ = some (.int .i64 xa.label) ∧ W.cell? ⟨g, k * 8 + 5, none⟩ = some (.int .u8 xa.frm) ∧ W.cell? ⟨g, k * 8 + 6, none⟩ = some (.int .u8 xa.tto) ∧ W.cell? ⟨g, k * 8 + 7, none⟩ = some (.slice ka0 ka1 ka2) ∧ W.cell? ⟨g', k * 8, none⟩ = some (.int .i8 xc.op) ∧ W.cell? ⟨g', k * 8 + 1, none⟩ = some (.int .i64 xc.proj) ∧ W.cell? ⟨g', k * 8 + 2, none⟩ = some (.bool xc.inj) ∧ W.cell? ⟨g', k * 8 + 3, none⟩ = some (.int .u8 xc.head) ∧ W.cell? ⟨g', k * 8 + 4, none⟩ = some (.int .i64 xc.label) ∧ W.cell? ⟨g', k * 8 + 5, none⟩ = some (.int .u8 xc.frm) ∧ W.cell? ⟨g', k * 8 + 6, none⟩ = some (.int .u8 xc.tto) ∧ W.cell? ⟨g', k * 8 + 7, none⟩ = some (.slice kc0 kc1 kc2)) := fun W hW => by
          have hk2 := HK.out
          have hz := HBk.out.l68
          have hz2 := HBk.out.lo6
          have hz3 := HBk.out.hL
          have hz4 := HBk.out.bs
          have e0 : ∀ o, W.cell? ⟨K0, o, none⟩ = wr.cell? ⟨K0, o, none⟩ := fun o => hW.cell (p := ⟨K0, o, none⟩) (by show K0 < B5; omega)
          have e1 : ∀ o, W.cell? ⟨K1, o, none⟩ = wr.cell? ⟨K1, o, none⟩ := fun o => hW.cell (p := ⟨K1, o, none⟩) (by show K1 < B5; omega)
          have hwr : Below w.heap.size w wr := HB0.out.trans (HBk.out.bl.mono HB0.out.size)
          have eg : ∀ o, W.cell? ⟨g, o, none⟩ = w.cell? ⟨g, o, none⟩ := fun o => (hW.cell (p := ⟨g, o, none⟩) (by show g < B5; omega)).trans (hwr.cell (p := ⟨g, o, none⟩) (by show g < w.heap.size; omega))
          have eg' : ∀ o, W.cell? ⟨g', o, none⟩ = w.cell? ⟨g', o, none⟩ := fun o => (hW.cell (p := ⟨g', o, none⟩) (by show g' < B5; omega)).trans (hwr.cell (p := ⟨g', o, none⟩) (by show g' < w.heap.size; omega))
          obtain ⟨a0, a1, a2, a3, a4, a5, a6, a7⟩ := hA
          obtain ⟨d0, d1, d2, d3, d4, d5, d6, d7⟩ := hD
          simp only [e0, e1, eg, eg']
          exact ⟨s7, t7, a0, a1, a2, a3, a4, a5, a6, a7, d0, d1, d2, d3, d4, d5, d6, d7⟩
        clear hA hD hR8 hR8' hx hy hd
        have hlk := HL.out
        have hk2 : ks.length ≤ 2 := by omega
        have hbs := HBk.out.bs
        have cM : ∀ W, Below wr.heap.size wr W → Calls Tryz.prog 31 (if trn x.op k then #[tree xc (.slice kc0 kc1 kc2), tree xa (.slice ka0 ka1 ka2)] else #[tree xa (.slice ka0 ka1 ka2), tree xc (.slice kc0 kc1 kc2)]) W fun e w' => ∃ da dn dc, e = .returned (tree (nod d) (.slice da dn dc)) ∧ DQ w' (fun g => g < L ∨ (wr.heap.size ≤ g ∧ g < w'.heap.size)) d (.slice da dn dc) ∧ Below wr.heap.size wr w' := fun W hW =>
          (hcall W ((HB0.out.trans (HBk.out.bl.mono HB0.out.size)).trans (hW.mono (HB0.out.trans (HBk.out.bl.mono HB0.out.size)).size))).mono (by
            rintro e w' ⟨⟨da, dn, dc, he, hq⟩, h⟩
            refine ⟨da, dn, dc, he, hq.keep (fun g hg => ⟨rfl, ?_⟩), hW.trans (h.mono hW.size)⟩
            have := hW.size
            omega)
        clear hcall
        have HB5n : Aside (∀ w8, Below wr.heap.size wr w8 → Bk W0 w8 L K2 B5 (B5 + 1) ⟨x.op, x.proj, y.inj, x.head, 0, 0, 0⟩ (.slice oa on oc) ks) := fun w8 h => HBk.out.next h
        have hwz : B5 < wr.heap.size := HBk.out.size
        generalize trn x.op (k : Int) = TB at *
        cases TB
        · have cM : ∀ W, Below wr.heap.size wr W → Calls Tryz.prog 31 #[tree xa (.slice ka0 ka1 ka2), tree xc (.slice kc0 kc1 kc2)] W fun e w' => ∃ da dn dc, e = .returned (tree (nod d) (.slice da dn dc)) ∧ DQ w' (fun g => g < L ∨ (wr.heap.size ≤ g ∧ g < w'.heap.size)) d (.slice da dn dc) ∧ Below wr.heap.size wr w' := cM
          go_upto_region 14 with fail
          go_upto_region 16 with (go_at_call 67; refine (hct _).mono ?_; rintro e w7 ⟨rfl, hq7⟩; replace hq7 := hq7.symm; subst hq7)
          clear s0 s1 s2 s3 s4 s5 s6 s7 t0 t1 t2 t3 t4 t5 t6 t7
          have hD7 : Below wr.heap.size wr wr.drew := (Below.refl _ _).drew
          have hne9 : Nonempty (Cls (fun W => Below wr.heap.size wr W)) := ⟨⟨wr, Below.refl _ _⟩⟩
          have zf0 : ∀ z : Cls (fun W => Below wr.heap.size wr W), z.w.cell? ⟨K0, 7, none⟩ = some (.slice (some ⟨g, 0, none⟩) n sc) := fun z => (hS.out _ (z.h.mono (by omega))).1
          have zf1 : ∀ z : Cls (fun W => Below wr.heap.size wr W), z.w.cell? ⟨K1, 7, none⟩ = some (.slice (some ⟨g', 0, none⟩) n tc) := fun z => (hS.out _ (z.h.mono (by omega))).2.1
          have zf2 : ∀ z : Cls (fun W => Below wr.heap.size wr W), z.w.cell? ⟨g, k * 8, none⟩ = some (.int .i8 xa.op) := fun z => (hS.out _ (z.h.mono (by omega))).2.2.1
          have zf3 : ∀ z : Cls (fun W => Below wr.heap.size wr W), z.w.cell? ⟨g, k * 8 + 1, none⟩ = some (.int .i64 xa.proj) := fun z => (hS.out _ (z.h.mono (by omega))).2.2.2.1
          have zf4 : ∀ z : Cls (fun W => Below wr.heap.size wr W), z.w.cell? ⟨g, k * 8 + 2, none⟩ = some (.bool xa.inj) := fun z => (hS.out _ (z.h.mono (by omega))).2.2.2.2.1
          have zf5 : ∀ z : Cls (fun W => Below wr.heap.size wr W), z.w.cell? ⟨g, k * 8 + 3, none⟩ = some (.int .u8 xa.head) := fun z => (hS.out _ (z.h.mono (by omega))).2.2.2.2.2.1
          have zf6 : ∀ z : Cls (fun W => Below wr.heap.size wr W), z.w.cell? ⟨g, k * 8 + 4, none⟩ = some (.int .i64 xa.label) := fun z => (hS.out _ (z.h.mono (by omega))).2.2.2.2.2.2.1
          have zf7 : ∀ z : Cls (fun W => Below wr.heap.size wr W), z.w.cell? ⟨g, k * 8 + 5, none⟩ = some (.int .u8 xa.frm) := fun z => (hS.out _ (z.h.mono (by omega))).2.2.2.2.2.2.2.1
          have zf8 : ∀ z : Cls (fun W => Below wr.heap.size wr W), z.w.cell? ⟨g, k * 8 + 6, none⟩ = some (.int .u8 xa.tto) := fun z => (hS.out _ (z.h.mono (by omega))).2.2.2.2.2.2.2.2.1
          have zf9 : ∀ z : Cls (fun W => Below wr.heap.size wr W), z.w.cell? ⟨g, k * 8 + 7, none⟩ = some (.slice ka0 ka1 ka2) := fun z => (hS.out _ (z.h.mono (by omega))).2.2.2.2.2.2.2.2.2.1
          have zf10 : ∀ z : Cls (fun W => Below wr.heap.size wr W), z.w.cell? ⟨g', k * 8, none⟩ = some (.int .i8 xc.op) := fun z => (hS.out _ (z.h.mono (by omega))).2.2.2.2.2.2.2.2.2.2.1
          have zf11 : ∀ z : Cls (fun W => Below wr.heap.size wr W), z.w.cell? ⟨g', k * 8 + 1, none⟩ = some (.int .i64 xc.proj) := fun z => (hS.out _ (z.h.mono (by omega))).2.2.2.2.2.2.2.2.2.2.2.1
          have zf12 : ∀ z : Cls (fun W => Below wr.heap.size wr W), z.w.cell? ⟨g', k * 8 + 2, none⟩ = some (.bool xc.inj) := fun z => (hS.out _ (z.h.mono (by omega))).2.2.2.2.2.2.2.2.2.2.2.2.1
          have zf13 : ∀ z : Cls (fun W => Below wr.heap.size wr W), z.w.cell? ⟨g', k * 8 + 3, none⟩ = some (.int .u8 xc.head) := fun z => (hS.out _ (z.h.mono (by omega))).2.2.2.2.2.2.2.2.2.2.2.2.2.1
          have zf14 : ∀ z : Cls (fun W => Below wr.heap.size wr W), z.w.cell? ⟨g', k * 8 + 4, none⟩ = some (.int .i64 xc.label) := fun z => (hS.out _ (z.h.mono (by omega))).2.2.2.2.2.2.2.2.2.2.2.2.2.2.1
          have zf15 : ∀ z : Cls (fun W => Below wr.heap.size wr W), z.w.cell? ⟨g', k * 8 + 5, none⟩ = some (.int .u8 xc.frm) := fun z => (hS.out _ (z.h.mono (by omega))).2.2.2.2.2.2.2.2.2.2.2.2.2.2.2.1
          have zf16 : ∀ z : Cls (fun W => Below wr.heap.size wr W), z.w.cell? ⟨g', k * 8 + 6, none⟩ = some (.int .u8 xc.tto) := fun z => (hS.out _ (z.h.mono (by omega))).2.2.2.2.2.2.2.2.2.2.2.2.2.2.2.2.1
          have zf17 : ∀ z : Cls (fun W => Below wr.heap.size wr W), z.w.cell? ⟨g', k * 8 + 7, none⟩ = some (.slice kc0 kc1 kc2) := fun z => (hS.out _ (z.h.mono (by omega))).2.2.2.2.2.2.2.2.2.2.2.2.2.2.2.2.2
          have zf99 : ∀ z : Cls (fun W => Below wr.heap.size wr W), z.w.cell? ⟨B5, 7, none⟩ = some (.slice oa on oc) := fun z => (tcells_at (HB5n.out z.w z.h).h8).1.2.2.2.2.2.2.2
          have HD7 : Aside (Below wr.heap.size wr wr.drew) := hD7
          refine wp_region_noPanic ?_
          refine wp_region_calm_mid (fun W => Below wr.heap.size wr W) 12 14 (by kernel_rfl) (by kernel_rfl) hD7 (fun _ _ _ _ _ h => h) ?_
          clear hD7
          simp only [List.take_succ_cons, List.take_zero, List.drop_succ_cons, List.drop_zero]
          repeat (go_big_quiet_step (fail))
          refine wpQuiet_nil ?_
          clear zf0 zf1 zf2 zf3 zf4 zf5 zf6 zf7 zf8 zf9 zf10 zf11 zf12 zf13 zf14 zf15 zf16 zf17 zf99
          generalize wr.drew = wd at *
          unfold wpMid
          go_wp2_with (go_at_call 31; refine (cM _ HD7.out).mono ?_; rintro e w8 ⟨da, dn, dc, rfl, hDQ, hB8⟩)
          refine ⟨hB8, ?_⟩
          have hb8 : Below B5 wr w8 := hB8.mono (by omega)
          have c8 := (tcells_at (HB5n.out w8 hB8).h8).1.2.2.2.2.2.2.2
          have ca := cell_al (HB5n.out w8 hB8)
          have hown8 := (HB5n.out w8 hB8).own
          have hbs8 := (HB5n.out w8 hB8).bs
          unfold wpMid
          go_wp2_with fail
          refine ⟨below_al hB8 hB8.size _, ?_⟩
          unfold wpMid
          refine wpList_step ?_
          intro KK hKK
          refine step_app8 (by rfl) _ _ (by rfl) (B5 + 1) _ (.slice oa on oc) ks (by rfl) (World.ownsRow.alloc (w := w8) hown8 _) (by simp; omega) w8.heap.size 1 d da dn dc (by rfl) (heap_top w8 _) hk2 (w8.heap.size + 1) (by simp) ?_
          intro g2 cap2 w9 hown9 hg9 hat9 hlt9
          obtain ⟨f9, e9⟩ := head9 (HB5n.out w8 hB8) hg9
          refine hKK _ _ ?_
          clear hKK
          go_wp2_with fail
          refine NoPanic.normal ?_
          go_wp2_with fail
          go_roundg (n - (k + 1))
          case measure => omega
          case rel => exact ⟨k + 1, ks ++ [(d, .slice da dn dc)], some ⟨g2, 0, none⟩, k + 1, cap2, by omega, by go_num, by rw [Aside, List.length_append, hlk]; rfl, HM1.out _, by have q9 := HBk.out.app hB8 ((Below.refl _ _).alloc (Nat.le_refl _) _) hDQ hown9 hg9 (fun q e => (own_hv hat9 e).imp id (fun h => h.trans (by simp))); rw [hlk] at q9; exact q9⟩
        · have cM : ∀ W, Below wr.heap.size wr W → Calls Tryz.prog 31 #[tree xc (.slice kc0 kc1 kc2), tree xa (.slice ka0 ka1 ka2)] W fun e w' => ∃ da dn dc, e = .returned (tree (nod d) (.slice da dn dc)) ∧ DQ w' (fun g => g < L ∨ (wr.heap.size ≤ g ∧ g < w'.heap.size)) d (.slice da dn dc) ∧ Below wr.heap.size wr w' := cM
          go_upto_region 14 with fail
          go_upto_region 15 with (go_at_call 67; refine (hct _).mono ?_; rintro e w7 ⟨rfl, hq7⟩; replace hq7 := hq7.symm; subst hq7)
          clear s0 s1 s2 s3 s4 s5 s6 s7 t0 t1 t2 t3 t4 t5 t6 t7
          have hD7 : Below wr.heap.size wr wr.drew := (Below.refl _ _).drew
          have hne9 : Nonempty (Cls (fun W => Below wr.heap.size wr W)) := ⟨⟨wr, Below.refl _ _⟩⟩
          have zf0 : ∀ z : Cls (fun W => Below wr.heap.size wr W), z.w.cell? ⟨K0, 7, none⟩ = some (.slice (some ⟨g, 0, none⟩) n sc) := fun z => (hS.out _ (z.h.mono (by omega))).1
          have zf1 : ∀ z : Cls (fun W => Below wr.heap.size wr W), z.w.cell? ⟨K1, 7, none⟩ = some (.slice (some ⟨g', 0, none⟩) n tc) := fun z => (hS.out _ (z.h.mono (by omega))).2.1
          have zf2 : ∀ z : Cls (fun W => Below wr.heap.size wr W), z.w.cell? ⟨g, k * 8, none⟩ = some (.int .i8 xa.op) := fun z => (hS.out _ (z.h.mono (by omega))).2.2.1
          have zf3 : ∀ z : Cls (fun W => Below wr.heap.size wr W), z.w.cell? ⟨g, k * 8 + 1, none⟩ = some (.int .i64 xa.proj) := fun z => (hS.out _ (z.h.mono (by omega))).2.2.2.1
          have zf4 : ∀ z : Cls (fun W => Below wr.heap.size wr W), z.w.cell? ⟨g, k * 8 + 2, none⟩ = some (.bool xa.inj) := fun z => (hS.out _ (z.h.mono (by omega))).2.2.2.2.1
          have zf5 : ∀ z : Cls (fun W => Below wr.heap.size wr W), z.w.cell? ⟨g, k * 8 + 3, none⟩ = some (.int .u8 xa.head) := fun z => (hS.out _ (z.h.mono (by omega))).2.2.2.2.2.1
          have zf6 : ∀ z : Cls (fun W => Below wr.heap.size wr W), z.w.cell? ⟨g, k * 8 + 4, none⟩ = some (.int .i64 xa.label) := fun z => (hS.out _ (z.h.mono (by omega))).2.2.2.2.2.2.1
          have zf7 : ∀ z : Cls (fun W => Below wr.heap.size wr W), z.w.cell? ⟨g, k * 8 + 5, none⟩ = some (.int .u8 xa.frm) := fun z => (hS.out _ (z.h.mono (by omega))).2.2.2.2.2.2.2.1
          have zf8 : ∀ z : Cls (fun W => Below wr.heap.size wr W), z.w.cell? ⟨g, k * 8 + 6, none⟩ = some (.int .u8 xa.tto) := fun z => (hS.out _ (z.h.mono (by omega))).2.2.2.2.2.2.2.2.1
          have zf9 : ∀ z : Cls (fun W => Below wr.heap.size wr W), z.w.cell? ⟨g, k * 8 + 7, none⟩ = some (.slice ka0 ka1 ka2) := fun z => (hS.out _ (z.h.mono (by omega))).2.2.2.2.2.2.2.2.2.1
          have zf10 : ∀ z : Cls (fun W => Below wr.heap.size wr W), z.w.cell? ⟨g', k * 8, none⟩ = some (.int .i8 xc.op) := fun z => (hS.out _ (z.h.mono (by omega))).2.2.2.2.2.2.2.2.2.2.1
          have zf11 : ∀ z : Cls (fun W => Below wr.heap.size wr W), z.w.cell? ⟨g', k * 8 + 1, none⟩ = some (.int .i64 xc.proj) := fun z => (hS.out _ (z.h.mono (by omega))).2.2.2.2.2.2.2.2.2.2.2.1
          have zf12 : ∀ z : Cls (fun W => Below wr.heap.size wr W), z.w.cell? ⟨g', k * 8 + 2, none⟩ = some (.bool xc.inj) := fun z => (hS.out _ (z.h.mono (by omega))).2.2.2.2.2.2.2.2.2.2.2.2.1
          have zf13 : ∀ z : Cls (fun W => Below wr.heap.size wr W), z.w.cell? ⟨g', k * 8 + 3, none⟩ = some (.int .u8 xc.head) := fun z => (hS.out _ (z.h.mono (by omega))).2.2.2.2.2.2.2.2.2.2.2.2.2.1
          have zf14 : ∀ z : Cls (fun W => Below wr.heap.size wr W), z.w.cell? ⟨g', k * 8 + 4, none⟩ = some (.int .i64 xc.label) := fun z => (hS.out _ (z.h.mono (by omega))).2.2.2.2.2.2.2.2.2.2.2.2.2.2.1
          have zf15 : ∀ z : Cls (fun W => Below wr.heap.size wr W), z.w.cell? ⟨g', k * 8 + 5, none⟩ = some (.int .u8 xc.frm) := fun z => (hS.out _ (z.h.mono (by omega))).2.2.2.2.2.2.2.2.2.2.2.2.2.2.2.1
          have zf16 : ∀ z : Cls (fun W => Below wr.heap.size wr W), z.w.cell? ⟨g', k * 8 + 6, none⟩ = some (.int .u8 xc.tto) := fun z => (hS.out _ (z.h.mono (by omega))).2.2.2.2.2.2.2.2.2.2.2.2.2.2.2.2.1
          have zf17 : ∀ z : Cls (fun W => Below wr.heap.size wr W), z.w.cell? ⟨g', k * 8 + 7, none⟩ = some (.slice kc0 kc1 kc2) := fun z => (hS.out _ (z.h.mono (by omega))).2.2.2.2.2.2.2.2.2.2.2.2.2.2.2.2.2
          have zf99 : ∀ z : Cls (fun W => Below wr.heap.size wr W), z.w.cell? ⟨B5, 7, none⟩ = some (.slice oa on oc) := fun z => (tcells_at (HB5n.out z.w z.h).h8).1.2.2.2.2.2.2.2
          have HD7 : Aside (Below wr.heap.size wr wr.drew) := hD7
          refine wp_region_noPanic ?_
          refine wp_region_calm_mid (fun W => Below wr.heap.size wr W) 12 14 (by kernel_rfl) (by kernel_rfl) hD7 (fun _ _ _ _ _ h => h) ?_
          clear hD7
          simp only [List.take_succ_cons, List.take_zero, List.drop_succ_cons, List.drop_zero]
          repeat (go_big_quiet_step (fail))
          refine wpQuiet_nil ?_
          clear zf0 zf1 zf2 zf3 zf4 zf5 zf6 zf7 zf8 zf9 zf10 zf11 zf12 zf13 zf14 zf15 zf16 zf17 zf99
          generalize wr.drew = wd at *
          unfold wpMid
          go_wp2_with (go_at_call 31; refine (cM _ HD7.out).mono ?_; rintro e w8 ⟨da, dn, dc, rfl, hDQ, hB8⟩)
          refine ⟨hB8, ?_⟩
          have hb8 : Below B5 wr w8 := hB8.mono (by omega)
          have c8 := (tcells_at (HB5n.out w8 hB8).h8).1.2.2.2.2.2.2.2
          have ca := cell_al (HB5n.out w8 hB8)
          have hown8 := (HB5n.out w8 hB8).own
          have hbs8 := (HB5n.out w8 hB8).bs
          unfold wpMid
          go_wp2_with fail
          refine ⟨below_al hB8 hB8.size _, ?_⟩
          unfold wpMid
          refine wpList_step ?_
          intro KK hKK
          refine step_app8 (by rfl) _ _ (by rfl) (B5 + 1) _ (.slice oa on oc) ks (by rfl) (World.ownsRow.alloc (w := w8) hown8 _) (by simp; omega) w8.heap.size 1 d da dn dc (by rfl) (heap_top w8 _) hk2 (w8.heap.size + 1) (by simp) ?_
          intro g2 cap2 w9 hown9 hg9 hat9 hlt9
          obtain ⟨f9, e9⟩ := head9 (HB5n.out w8 hB8) hg9
          refine hKK _ _ ?_
          clear hKK
          go_wp2_with fail
          refine NoPanic.normal ?_
          go_wp2_with fail
          go_roundg (n - (k + 1))
          case measure => omega
          case rel => exact ⟨k + 1, ks ++ [(d, .slice da dn dc)], some ⟨g2, 0, none⟩, k + 1, cap2, by omega, by go_num, by rw [Aside, List.length_append, hlk]; rfl, HM1.out _, by have q9 := HBk.out.app hB8 ((Below.refl _ _).alloc (Nat.le_refl _) _) hDQ hown9 hg9 (fun q e => (own_hv hat9 e).imp id (fun h => h.trans (by simp))); rw [hlk] at q9; exact q9⟩
      · have hk' : ¬ (k : Int) < (n : Int) := by omega
        obtain rfl : k = n := by omega
        obtain ⟨⟨z0, z1, z2, z3, z4, z5, z6, z7⟩, y0, y1, y2, y3, y4, y5, y6, y7⟩ := tcells_at HBk.out.z6
        have HD : Aside (DQ wr (fun g => g < L ∨ (B5 + 1 ≤ g ∧ g < wr.heap.size)) R (.slice oa on oc)) := HBk.out.tree (by rw [HM.out, List.take_of_length_le (by rw [HRL.out]; omega)])
        have HBw : Aside (Below w.heap.size w wr) := HB0.out.trans (HBk.out.bl.mono HB0.out.size)
        have h68 := HBk.out.l68
        have h56 : K2 ≠ B5 := by omega
        have h65 : B5 ≠ K2 := by omega
        go_wp2_with fail
        obtain ⟨W9, hW9⟩ : ∃ W9, W9 = set8 wr K2 ⟨x.op, x.proj, y.inj, x.head, 0, 0, 0⟩ (.slice oa on oc) := ⟨_, rfl⟩
        have hb9 : Below w.heap.size w W9 := by rw [hW9]; exact set8_below (HBw.out) (by have := HK.out; omega)
        have hz9 : W9.heap[K2]? = some (.cells (tcells ⟨x.op, x.proj, y.inj, x.head, 0, 0, 0⟩ (.slice oa on oc)) 31 (0, 0)) := by rw [hW9]; exact set8_same HBk.out.z6
        obtain ⟨⟨v0, v1, v2, v3, v4, v5, v6, v7⟩, -⟩ := tcells_at hz9
        change bodyPost _ _ _ _ _ (set8 wr K2 ⟨x.op, x.proj, y.inj, x.head, 0, 0, 0⟩ (.slice oa on oc))
        rw [← hW9]
        refine bodyPost_ret (v := tree ⟨x.op, x.proj, y.inj, x.head, 0, 0, 0⟩ (.slice oa on oc)) (by simp [results, Tryz.results31, go_sem, v0, v1, v2, v3, v4, v5, v6, v7]) rfl ?_
        refine ⟨?_, hb9⟩
        refine ⟨oa, on, oc, by rw [HN.out], HD.out.keep fun g hg => ⟨?_, ?_⟩⟩
        · rw [hW9]
          have hz3 := HBk.out.hL
          exact set8_other g (by omega)
        · have e9 : W9.heap.size = wr.heap.size := by rw [hW9]; exact set8_size
          have hz2 := HBk.out.lo6
          have hk2 := HK.out
          omega
end Go.Proofs.YtaaokecdmbmgbaaGreatDoor
namespace Go.Proofs.YtaaokecdmbmgbaaGreatDoor
open Go.RowKit Cc
set_option maxRecDepth 100000
set_option linter.unusedSimpArgs false
set_option linter.unusedVariables false
namespace Cc
theorem same2_kids {s t : C} (h : Same2 s t) (gs : gr s) (gt : gr t) (hk : kidsMeet s t = true) : ∀ (k : Nat) (a c : C), (kidsC s)[k]? = some a → (kidsC t)[k]? = some c →
    gr a ∧ gr c ∧ (if trn (nod s).op k then meets c a else meets a c) = true ∧ size a + 1 ≤ size s ∧ size c + 1 ≤ size t := by
  cases h with
  | bs p j h q i => intro k a c hx; simp [kidsC] at hx
  | ls p j a q i c =>
    intro k x y hx hy
    match k, hx, hy with
    | 0, hx, hy =>
      obtain rfl : a = x := by simpa [kidsC] using hx
      obtain rfl : c = y := by simpa [kidsC] using hy
      refine ⟨gs.1, gt.1, ?_, by simp [size], by simp [size]⟩
      simpa [nod, sh, shN, trn, kidsMeet] using hk
    | k + 1, hx, hy => simp [kidsC] at hx
  | tw k p j a b q i c d =>
    rw [kidsMeet, if_pos rfl, Bool.and_eq_true] at hk
    intro m x y hx hy
    match m, hx, hy with
    | 0, hx, hy =>
      obtain rfl : a = x := by simpa [kidsC] using hx
      obtain rfl : c = y := by simpa [kidsC] using hy
      refine ⟨gs.1, gt.1, ?_, by simp only [size]; omega, by simp only [size]; omega⟩
      have h := hk.1
      cases k <;> simpa [nod, sh, shN, trn, opK, t0] using h
    | 1, hx, hy =>
      obtain rfl : b = x := by simpa [kidsC] using hx
      obtain rfl : d = y := by simpa [kidsC] using hy
      refine ⟨gs.2.1, gt.2.1, ?_, by simp only [size]; omega, by simp only [size]; omega⟩
      have h := hk.2
      cases k <;> simpa [nod, sh, shN, trn, opK, t1] using h
    | m + 2, hx, hy => simp [kidsC] at hx
end Cc
theorem dBoth_all : ∀ n, BoC n := by
  intro n
  induction n with
  | zero => intro s t vs vt w L hsz; have := size_pos s; omega
  | succ n ih =>
  intro s t vs vt w L hsz gs gt hm hds hdt hL
  by_cases e1 : (nod s).op = 7 ∨ (nod t).op = 1
  · exact bo_s s t vs vt w L gs gt hm hds hdt hL e1
  have h7 : (nod s).op ≠ 7 := fun h => e1 (.inl h)
  have g1 : (nod t).op ≠ 1 := fun h => e1 (.inr h)
  by_cases h1 : (nod s).op = 1
  · exact bo_t s t vs vt w L gs gt hm hds hdt hL h1 g1
  by_cases hh : (nod s).head = (nod t).head
  · by_cases g7 : (nod t).op = 7
    · exact bo_f s t vs vt w L gs gt hm hds hdt hL h7 h1 g1 g7 hh
    · have hS := same2 gs gt h7 h1 g7 g1 hh
      have hE : fin0 (nod s) = begN (nod t) := by
        have := meets_nod gs gt
        rw [hm, meetQ, if_neg h7, if_neg (by rintro (h | h); exact h1 h; exact g1 h)] at this
        by_cases e : fin0 (nod s) = begN (nod t)
        · exact e
        · rw [if_pos e] at this; cases this
      have hk := meets_kidQ gs gt h7 h1 g7 g1 hE hh
      rw [hm] at hk
      obtain ⟨en, el, em, ek⟩ := thn_same hS
      have hks := same2_kids hS gs gt hk.symm
      obtain ⟨a, cap, ksS, rfl, hmS, hdsS, hrowS⟩ := hds.row
      obtain ⟨a', cap', ksT, rfl, hmT, hdsT, hrowT⟩ := hdt.row
      have l1 : ksS.length = (kidsC s).length := by rw [← hmS, List.length_map]
      have l2 : ksT.length = (kidsC t).length := by rw [← hmT, List.length_map]
      have l3 : ksT.length = ksS.length := by omega
      have l4 : ksS.length ≤ 2 := by rw [l1]; cases s <;> simp [kidsC]
      rw [l3]
      refine bo_loop s t a a' ksS.length cap cap' ksS ksT w L hL rfl l3 l4 (by omega) en h7 h1 g7 g1 hh ?_ ?_ ?_ ?_ ?_
      · intro h; obtain ⟨g, e, -, q, r⟩ := hrowS h; exact ⟨g, e, q, r⟩
      · intro h; obtain ⟨g, e, -, q, r⟩ := hrowT h; exact ⟨g, e, q, r⟩
      · intro k hk; exact (hdsS k hk).form
      · intro k hk; exact (hdsT k hk).form
      · intro k x vx y vy hx hy
        have ex : (kidsC s)[k]? = some x := by rw [← hmS, List.getElem?_map, hx]; rfl
        have ey : (kidsC t)[k]? = some y := by rw [← hmT, List.getElem?_map, hy]; rfl
        obtain ⟨q1, q2, q3, q4, q5⟩ := hks k x y ex ey
        refine ⟨_, ek k x y ex ey, fun W hW => ?_⟩
        have dx := (hdsS _ (List.mem_of_getElem? hx)).below hL hW
        have dy := (hdsT _ (List.mem_of_getElem? hy)).below hL hW
        have hL' := Nat.le_trans hL hW.size
        by_cases ht : trn (nod s).op k = true
        · rw [if_pos ht] at q3 ⊢
          rw [if_pos ht]
          exact ih y x vy vx W L (by omega) q2 q1 q3 dy dx hL'
        · rw [if_neg ht] at q3 ⊢
          rw [if_neg ht]
          exact ih x y vx vy W L (by omega) q1 q2 q3 dx dy hL'
  · exact bo_d s t vs vt w L gs gt hm hds hdt hL h7 h1 g1 hh
/-- THE DOCUMENT'S BOTH IS thn, of those that meet. -/
theorem dBoth_any (s t : C) (vs vt : Value) (w : World) (L : Nat) (gs : gr s) (gt : gr t) (hm : meets s t = true) (hs : DT w 0 L s vs) (ht : DT w 0 L t vt) (hL : L ≤ w.heap.size) :
    Calls Tryz.prog 31 #[tree (nod s) vs, tree (nod t) vt] w fun e w' => BoE L w (thn s t) e w' ∧ Below w.heap.size w w' :=
  dBoth_all _ s t vs vt w L (Nat.le_refl _) gs gt hm hs ht hL
end Go.Proofs.YtaaokecdmbmgbaaGreatDoor
