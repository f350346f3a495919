/- Package check: with; ask, meet, made. Package check: made, meet. What the program's Kids and Deep answer. What the program's Deep and Equal answer. What the program's Equal answers. -/
import Derived.Test.YthihnkgjkmaplaaDoorUan
namespace Go.Proofs.YthihnkgjkmaplaaDoor
open Go.RowKit Ck
open T3.Tp (Ty enc cns met)
set_option maxRecDepth 100000
set_option linter.unusedSimpArgs false

theorem look_cons (n : ByteArray) (t : Ty) (env : Env) (m : ByteArray) : lookS ((n.data.toList, t) :: env) m = (if m = n then S (enc t) else lookS env m) ∧ lookB ((n.data.toList, t) :: env) m = (if m = n then true else lookB env m) := by
  have hl : Ck.look ((n.data.toList, t) :: env) m.data.toList = if m.data.toList = n.data.toList then some t else Ck.look env m.data.toList := rfl
  unfold lookS lookB
  rw [hl]
  by_cases h : m = n
  · subst h; simp
  · have : ¬ m.data.toList = n.data.toList := fun e => h (by cases m; cases n; simpa using e)
    simp [h, this]
theorem enters_with1 : ∀ args w, (callFunc 68 args).run Tryd.prog w = .ok (.enter 68 args) w := enters_of Tryd.func68 (by kernel_rfl) rfl

set_option maxHeartbeats 1000000 in
theorem with1_any (w : World) (g1 g2 g3 F : Nat) (caps : Array Value) (n m : ByteArray) (t : Ty) (env : Env)
    (hE : ∀ args w, (callFunc F args).run Tryd.prog w = .ok (.enter F args) w)
    (h1 : w.cell? ⟨g1, 0, none⟩ = some (.string n)) (h2 : w.cell? ⟨g2, 0, none⟩ = some (.string (S (enc t)))) (h3 : w.cell? ⟨g3, 0, none⟩ = some (.func (.func F) #[] caps))
    (hC : Calls Tryd.prog F (#[.string m] ++ caps) w fun e w2 => e = .returned (.tuple #[.string (lookS env m), .bool (lookB env m)]) ∧ w2 = w) :
    Calls Tryd.prog 68 #[.string m, .pointer (some ⟨g1, 0, none⟩), .pointer (some ⟨g2, 0, none⟩), .pointer (some ⟨g3, 0, none⟩)] w fun e w2 => e = .returned (.tuple #[.string (lookS ((n.data.toList, t) :: env) m), .bool (lookB ((n.data.toList, t) :: env) m)]) ∧ w2 = w := by
  rw [(look_cons n t env m).1, (look_cons n t env m).2]
  generalize S (enc t) = st at *
  by_cases h : m = n
  · subst h
    rw [if_pos rfl, if_pos rfl]
    have hb : (m.toList == m.toList) = true := by simp
    clear hC
    go_enter Tryd.func68, Tryd.ntmps68
    go_wp2_with fail
    go_ret2
    exact ⟨rfl, rfl⟩
  · rw [if_neg h, if_neg h]
    have hb : (m.toList == n.toList) = false := (Lib.bytes_beq_false_iff m n).2 h
    go_enter Tryd.func68, Tryd.ntmps68
    go_wp2_with (refine hC.mono ?_; rintro e w2 ⟨rfl, rfl⟩)
    go_ret2
    exact ⟨rfl, rfl⟩

set_option maxHeartbeats 1000000 in
theorem with_any (a b : Nat) (w : World) (v : Value) (env : Env) (n : ByteArray) (t : Ty) (hS : Scope a b w v env) (ha : a < w.heap.size) (hb : b < w.heap.size) :
    Calls Tryd.prog 51 #[v, .string n, .string (S (enc t))] w fun e w' => ∃ v', e = .returned v' ∧ Scope a b w' v' ((n.data.toList, t) :: env) ∧ Below w.heap.size w w' := by
  obtain ⟨F, caps, rfl, hE, hC⟩ := hS
  have hB : Below w.heap.size w (((w.alloc (.cells #[.func (.func F) #[] caps] 47)).alloc (.cells #[.string n] 9)).alloc (.cells #[.string (S (enc t))] 9)) := (((Below.refl _ _).alloc (Nat.le_refl _) _).alloc (by simp) _).alloc (by simp; omega) _
  have k0 : (((w.alloc (.cells #[.func (.func F) #[] caps] 47)).alloc (.cells #[.string n] 9)).alloc (.cells #[.string (S (enc t))] 9)).cell? ⟨w.heap.size, 0, none⟩ = some (.func (.func F) #[] caps) := T3.cell_old rfl (by simp; omega) (T3.cell_old rfl (by simp) (T3.cell_new rfl rfl))
  have k1 : (((w.alloc (.cells #[.func (.func F) #[] caps] 47)).alloc (.cells #[.string n] 9)).alloc (.cells #[.string (S (enc t))] 9)).cell? ⟨w.heap.size + 1, 0, none⟩ = some (.string n) := T3.cell_old rfl (by simp) (T3.cell_new rfl (by simp))
  have k2 : (((w.alloc (.cells #[.func (.func F) #[] caps] 47)).alloc (.cells #[.string n] 9)).alloc (.cells #[.string (S (enc t))] 9)).cell? ⟨w.heap.size + 2, 0, none⟩ = some (.string (S (enc t))) := T3.cell_new rfl (by simp)
  have hz : (((w.alloc (.cells #[.func (.func F) #[] caps] 47)).alloc (.cells #[.string n] 9)).alloc (.cells #[.string (S (enc t))] 9)).heap.size = w.heap.size + 3 := by simp
  have HS : Aside (∀ W, W = (((w.alloc (.cells #[.func (.func F) #[] caps] 47)).alloc (.cells #[.string n] 9)).alloc (.cells #[.string (S (enc t))] 9)) → Below w.heap.size w W ∧ Scope a b W (.func (.func 68) #[] #[.pointer (some ⟨w.heap.size + 1, 0, none⟩), .pointer (some ⟨w.heap.size + 2, 0, none⟩), .pointer (some ⟨w.heap.size, 0, none⟩)]) ((n.data.toList, t) :: env)) := by
    intro W hW
    rw [← hW] at hB k0 k1 k2 hz
    refine ⟨hB, _, _, rfl, enters_with1, fun w' hw m hm => ?_⟩
    exact with1_any w' _ _ _ F caps n m t env hE ((hw.cell (by simp; omega) (by simp; omega) (by simp; omega)).trans k1) ((hw.cell (by simp; omega) (by simp; omega) (by simp; omega)).trans k2) ((hw.cell (by simp; omega) (by simp; omega) (by simp; omega)).trans k0) (hC w' ((below_two hB a b).trans hw) m hm)
  clear hB k0 k1 k2 hz hC hE
  generalize S (enc t) = st at *
  go_enter Tryd.func51, Tryd.ntmps51
  go_wp2_with fail
  go_ret
  have := HS.out _ rfl
  exact ⟨_, rfl, this.2, this.1⟩

/-- A refusal. -/
def rf (c p : Int) : Value := .agg #[.int .i64 c, .int .i64 p]
/-- The checker's block holds the row of types. -/
def HasT (w : World) (cb tb n : Nat) : Prop := w.cell? ⟨cb, 1, none⟩ = some (.slice (some ⟨tb, 0, none⟩) n n)
theorem HasT.below {w w' : World} {cb tb n : Nat} (h : HasT w cb tb n) (hc : cb < w.heap.size) (hB : Below w.heap.size w w') : HasT w' cb tb n := (hB.cell (p := ⟨cb, 1, none⟩) hc).trans h

set_option maxHeartbeats 1000000 in
theorem ask_any (w : World) (cb tb n k : Nat) (t u : Ty) (c p : Int) (hT : HasT w cb tb n) (hk : k < n) (ht : w.cell? ⟨tb, k, none⟩ = some (.string (S (enc t)))) (h1 : (enc t).length ≤ 64) (h2 : (enc u).length ≤ 64) :
    Calls Tryd.prog 53 #[.pointer (some ⟨cb, 0, none⟩), .int .i64 (k : Int), .string (S (enc u)), rf c p] w fun e w' => e = .returned (if cns t u then rf 0 0 else rf c p) ∧ Below w.heap.size w w' := by
  have hC : ∀ w, Calls Tryd.prog 69 #[.string (S (enc t)), .string (S (enc u))] w fun e w' => e = .returned (.bool (cns t u)) ∧ Below w.heap.size w w' := T3.consistent_yes t u h1 h2
  have hcb : cb < w.heap.size := World.block_lt_of_cell? _ _ hT
  have htb : tb < w.heap.size := World.block_lt_of_cell? _ _ ht
  unfold rf
  have hT' := hT
  unfold HasT at hT'
  have hk' : (k : Int) < (n : Int) := by omega
  have hk0 : (0 : Int) ≤ (k : Int) := by omega
  have e1 : ∀ o1 o2, ((w.alloc o1).alloc o2).cell? ⟨cb, 1, none⟩ = some (.slice (some ⟨tb, 0, none⟩) n n) := fun o1 o2 => ((((Below.refl _ _).alloc (Nat.le_refl _) o1).alloc (by simp) o2 : Below w.heap.size w _).cell hcb).trans hT'
  have e2 : ∀ o1 o2, ((w.alloc o1).alloc o2).cell? ⟨tb, k, none⟩ = some (.string (S (enc t))) := fun o1 o2 => ((((Below.refl _ _).alloc (Nat.le_refl _) o1).alloc (by simp) o2 : Below w.heap.size w _).cell htb).trans ht
  have HB : Aside (∀ o1 o2 W, Below ((w.alloc o1).alloc o2).heap.size ((w.alloc o1).alloc o2) W → Below w.heap.size w W) := fun o1 o2 W h => (((Below.refl _ _).alloc (Nat.le_refl _) o1).alloc (by simp) o2).trans (h.mono (by simp; omega))
  clear hT ht hT'
  show Calls _ _ _ _ fun e w' => e = .returned (if cns t u = true then Value.agg #[.int .i64 0, .int .i64 0] else .agg #[.int .i64 c, .int .i64 p]) ∧ _
  generalize S (T3.Tp.enc t) = st at *
  generalize S (T3.Tp.enc u) = su at *
  have f1 : ∀ W, Below ((w.alloc (.cells #[.int .i64 c, .int .i64 p] 53)).alloc (.cells #[.int .i64 0, .int .i64 0] 53)).heap.size ((w.alloc (.cells #[.int .i64 c, .int .i64 p] 53)).alloc (.cells #[.int .i64 0, .int .i64 0] 53)) W →
      W.heap[w.heap.size]? = some (.cells #[.int .i64 c, .int .i64 p] 53) ∧ W.heap[w.heap.size + 1]? = some (.cells #[.int .i64 0, .int .i64 0] 53) := fun W hW =>
    ⟨(hW.block _ (by simp; omega)).trans ((Below.heap_alloc _ _ _ (by simp)).trans (heap_alloc_new _ _)), (hW.block _ (by simp)).trans (by have := heap_alloc_new (w.alloc (.cells #[.int .i64 c, .int .i64 p] 53)) (.cells #[.int .i64 0, .int .i64 0] 53); simpa using this)⟩
  have HF : Aside _ := f1
  clear f1
  cases hq : T3.Tp.cns t u with
  | true =>
    rw [hq] at hC
    go_enter Tryd.func53, Tryd.ntmps53
    go_wp2_with fail
    refine (hC _).mono ?_
    rintro e w1 ⟨rfl, hB1⟩
    obtain ⟨k0, k1⟩ := HF.out w1 hB1
    obtain ⟨c1, z1⟩ := block_cells k1
    have c00 : w1.cell? ⟨w.heap.size, 0, none⟩ = some (.int .i64 c) := (block_cells k0).1 0
    have c01 : w1.cell? ⟨w.heap.size, 1, none⟩ = some (.int .i64 p) := (block_cells k0).1 1
    have c10 : w1.cell? ⟨w.heap.size + 1, 0, none⟩ = some (.int .i64 0) := c1 0
    have c11 : w1.cell? ⟨w.heap.size + 1, 1, none⟩ = some (.int .i64 0) := c1 1
    have HB1 := HB.out _ _ w1 hB1
    have HB2 : Aside (∀ x y, Below w.heap.size w ((w1.setCell ⟨w.heap.size + 1, 0, none⟩ x).setCell ⟨w.heap.size + 1, 1, none⟩ y)) := fun x y => (HB1.setCell (by simp) _).setCell (by simp) _
    clear hC hB1 HB HB1 k0 k1 HF e1 e2 c1
    go_wp2_with fail
    try simp only [Exit.inBlock, Exit.then]
    refine bodyPost_ret (v := .agg #[.int .i64 0, .int .i64 0]) (by simp [results, Tryd.results53, go_sem, c10, c11]) rfl ?_
    exact ⟨rfl, HB2.out _ _⟩
  | false =>
    rw [hq] at hC
    go_enter Tryd.func53, Tryd.ntmps53
    go_wp2_with fail
    refine (hC _).mono ?_
    rintro e w1 ⟨rfl, hB1⟩
    obtain ⟨k0, k1⟩ := HF.out w1 hB1
    obtain ⟨c1, z1⟩ := block_cells k1
    have c00 : w1.cell? ⟨w.heap.size, 0, none⟩ = some (.int .i64 c) := (block_cells k0).1 0
    have c01 : w1.cell? ⟨w.heap.size, 1, none⟩ = some (.int .i64 p) := (block_cells k0).1 1
    have c10 : w1.cell? ⟨w.heap.size + 1, 0, none⟩ = some (.int .i64 0) := c1 0
    have c11 : w1.cell? ⟨w.heap.size + 1, 1, none⟩ = some (.int .i64 0) := c1 1
    have HB1 := HB.out _ _ w1 hB1
    have HB2 : Aside (∀ x y, Below w.heap.size w ((w1.setCell ⟨w.heap.size + 1, 0, none⟩ x).setCell ⟨w.heap.size + 1, 1, none⟩ y)) := fun x y => (HB1.setCell (by simp) _).setCell (by simp) _
    clear hC hB1 HB HB1 k0 k1 HF e1 e2 c1
    go_wp2_with fail
    try simp only [Exit.inBlock, Exit.then]
    refine bodyPost_ret (v := .agg #[.int .i64 c, .int .i64 p]) (by simp [results, Tryd.results53, go_sem, c10, c11]) rfl ?_
    exact ⟨rfl, HB2.out _ _⟩
end Go.Proofs.YthihnkgjkmaplaaDoor
namespace Go.Proofs.YthihnkgjkmaplaaDoor
open Go.RowKit Ck
open T3.Tp (Ty enc cns met)
set_option maxRecDepth 100000
set_option linter.unusedSimpArgs false

/-- What a rule answers: a type, or a refusal. -/
def Ans (r : Rs Ty) (e : Ending) : Prop := match r with
  | .ok t => ∃ p : Int, e = .returned (.tuple #[.string (S (enc t)), rf 0 p])
  | .error q => q.1 ≠ 0 ∧ ∃ s, e = .returned (.tuple #[.string s, rf q.1 q.2])

theorem mkF_of (t : Ty) (h : ∀ u ∈ T3.Tp.kids t, (enc u).length ≤ 64) : T3.Tp.mkF (T3.Tp.hd t) ((T3.Tp.kids t).map enc) = if (enc t).length ≤ 64 then (0, enc t) else (21, []) := by
  have h1 : T3.Tp.ar (T3.Tp.hd t).toNat = ((T3.Tp.kids t).map enc).length := by rw [T3.Tp.ar_hd, List.length_map]
  have h2 : T3.Tp.firstBad ((T3.Tp.kids t).map enc) = 0 := T3.Tp.firstBad_encs _ h
  have h3 : enc t = T3.Tp.hd t :: ((T3.Tp.kids t).map enc).flatten := T3.Tp.enc_eq t
  have h4 : (enc t).length = 1 + ((T3.Tp.kids t).map enc).flatten.length := by rw [h3]; simp [Nat.add_comm]
  by_cases hl : (enc t).length ≤ 64
  · rw [if_pos hl, T3.Tp.mk_ok h1 h2 (by omega), ← h3]
  · rw [if_neg hl, T3.Tp.mk_large h1 h2 (by omega)]

set_option maxHeartbeats 1000000 in
theorem made_any (t : Ty) (i : Nat) (v : Value) (w : World) (h : ∀ u ∈ T3.Tp.kids t, (enc u).length ≤ 64) (hv : T3.IsTexts w v ((T3.Tp.kids t).map enc)) (hk : (T3.Tp.kids t).length ≤ 2) :
    Calls Tryd.prog 55 #[.int .i64 (i : Int), .int .u8 ((T3.Tp.hd t).toNat : Int), v] w fun e w' => Ans (made i t) e ∧ Below w.heap.size w w' := by
  have hM : ∀ w' : World, Below w.heap.size w w' → Calls Tryd.prog 49 #[.int .u8 ((T3.Tp.hd t).toNat : Int), v] w' fun e w2 => e = .returned (.tuple #[.string (S (T3.Tp.mkF (T3.Tp.hd t) ((T3.Tp.kids t).map enc)).2), .int .i64 (T3.Tp.mkF (T3.Tp.hd t) ((T3.Tp.kids t).map enc)).1]) ∧ Below w'.heap.size w' w2 :=
    fun w' hB => T3.make_any (T3.Tp.hd t) v _ w' (hv.below hB) (by rw [List.length_map]; omega)
  rw [mkF_of t h] at hM
  have HA : Aside (∀ x y, (x, y) = (if (enc t).length ≤ 64 then ((0 : Nat), enc t) else (21, [])) → Ans (made i t) (.returned (.tuple #[.string (S y), rf (x : Int) (i : Int)]))) := by
    intro x y hxy
    unfold made
    by_cases hl : (enc t).length ≤ 64
    · rw [if_pos hl] at hxy; cases hxy
      rw [if_pos hl]; exact ⟨_, rfl⟩
    · rw [if_neg hl] at hxy; cases hxy
      rw [if_neg hl]; exact ⟨by simp, _, rfl⟩
  have h1 := hM _ ((Below.refl _ _).alloc (Nat.le_refl _) (.cells #[.int .i64 0, .int .i64 0] 53))
  generalize (if (enc t).length ≤ 64 then ((0 : Nat), enc t) else (21, [])) = xy at *
  obtain ⟨x, y⟩ := xy
  replace HA := HA.out x y rfl
  have HA' : Aside _ := HA
  clear hM HA hv
  simp only at h1
  generalize ((T3.Tp.hd t).toNat : Int) = hh at *
  generalize S y = sy at *
  go_enter Tryd.func55, Tryd.ntmps55
  go_wp2_with fail
  refine h1.mono ?_
  rintro e w1 ⟨rfl, hB1⟩
  have k1 : w1.heap[w.heap.size]? = some (.cells #[.int .i64 0, .int .i64 0] 53) := (hB1.block _ (by simp)).trans (heap_alloc_new _ _)
  have c10 : w1.cell? ⟨w.heap.size, 0, none⟩ = some (.int .i64 0) := (block_cells k1).1 0
  have c11 : w1.cell? ⟨w.heap.size, 1, none⟩ = some (.int .i64 0) := (block_cells k1).1 1
  have z1 := (block_cells k1).2
  have HB2 : Aside (∀ x y, Below w.heap.size w ((w1.setCell ⟨w.heap.size, 0, none⟩ x).setCell ⟨w.heap.size, 1, none⟩ y)) := fun x y => ((((Below.refl _ _).alloc (Nat.le_refl _) _).trans (hB1.mono (by simp))).setCell (by simp) _).setCell (by simp) _
  clear h1 hB1 k1
  go_wp2_with fail
  try simp only [Exit.inBlock, Exit.then]
  refine bodyPost_ret (v := .tuple #[.string sy, .agg #[.int .i64 x, .int .i64 i]]) (by simp [results, Tryd.results55, go_sem, c10, c11]) rfl ?_
  exact ⟨HA'.out, HB2.out _ _⟩

set_option maxHeartbeats 1000000 in
theorem ckMeet_any (w : World) (cb tb n k i : Nat) (a t : Ty) (hT : HasT w cb tb n) (hk : k < n) (ht : w.cell? ⟨tb, k, none⟩ = some (.string (S (enc t)))) (h1 : (enc t).length ≤ 64) (h2 : (enc a).length ≤ 64) :
    Calls Tryd.prog 70 #[.pointer (some ⟨cb, 0, none⟩), .int .i64 (i : Int), .string (S (enc a)), .int .i64 (k : Int)] w fun e w' => Ans (meetK i a (k, t)) e ∧ Below w.heap.size w w' := by
  have hC : ∀ w, Calls Tryd.prog 79 #[.string (S (enc a)), .string (S (enc t))] w fun e w' => e = .returned (.tuple #[.string (S (T3.mtS a t)), .int .i64 (T3.mtE a t : Nat)]) ∧ Below w.heap.size w w' := T3.meet_yes a t h2 h1
  have hcb : cb < w.heap.size := World.block_lt_of_cell? _ _ hT
  have htb : tb < w.heap.size := World.block_lt_of_cell? _ _ ht
  unfold HasT at hT
  have hk' : (k : Int) < (n : Int) := by omega
  have hk0 : (0 : Int) ≤ (k : Int) := by omega
  have hBa : ∀ o, Below w.heap.size w (w.alloc o) := fun o => (Below.refl _ _).alloc (Nat.le_refl _) o
  have e1 : ∀ o, (w.alloc o).cell? ⟨cb, 1, none⟩ = some (.slice (some ⟨tb, 0, none⟩) n n) := fun o => ((hBa o).cell hcb).trans hT
  have e2 : ∀ o, (w.alloc o).cell? ⟨tb, k, none⟩ = some (.string (S (enc t))) := fun o => ((hBa o).cell htb).trans ht
  have HA : Aside ((T3.mtE a t = 30 → Ans (meetK i a (k, t)) (.returned (.tuple #[.string ⟨#[]⟩, rf 25 k]))) ∧ (T3.mtE a t ≠ 30 → Ans (meetK i a (k, t)) (.returned (.tuple #[.string (S (T3.mtS a t)), rf (T3.mtE a t : Nat) i])))) := by
    show _ ∧ _
    unfold T3.mtE T3.mtS meetK
    simp only
    cases hq : cns a t with
    | false => exact ⟨fun _ => ⟨by simp, _, rfl⟩, fun h => absurd rfl h⟩
    | true =>
      simp only [if_true]
      unfold T3.Tp.merr T3.Tp.val
      by_cases hl : (enc (met a t)).length ≤ 64
      · rw [if_pos hl, if_pos hl, if_pos hl]; exact ⟨fun h => absurd h (by decide), fun _ => ⟨_, rfl⟩⟩
      · rw [if_neg hl, if_neg hl, if_neg hl]; exact ⟨fun h => absurd h (by decide), fun _ => ⟨by simp, _, rfl⟩⟩
  have hx := hC (w.alloc (.cells #[.int .i64 0, .int .i64 0] 53))
  clear hT ht hC
  have HF : Aside (∀ W, Below (w.alloc (.cells #[.int .i64 0, .int .i64 0] 53)).heap.size (w.alloc (.cells #[.int .i64 0, .int .i64 0] 53)) W → W.heap[w.heap.size]? = some (.cells #[.int .i64 0, .int .i64 0] 53) ∧ Below w.heap.size w W) := fun W hW => ⟨(hW.block _ (by simp)).trans (heap_alloc_new _ _), (hBa _).trans (hW.mono (by simp))⟩
  clear hBa
  generalize T3.mtE a t = mE at *
  generalize S (T3.mtS a t) = sm at *
  generalize S (enc t) = st at *
  generalize S (enc a) = sa at *
  by_cases h30 : mE = 30
  · subst h30
    have HA' : Aside _ := HA.out.1 rfl
    clear HA
    go_enter Tryd.func70, Tryd.ntmps70
    go_wp2_with fail
    refine hx.mono ?_
    rintro e w1 ⟨rfl, hB1⟩
    obtain ⟨k1, hB2⟩ := HF.out w1 hB1
    have c10 : w1.cell? ⟨w.heap.size, 0, none⟩ = some (.int .i64 0) := (block_cells k1).1 0
    have c11 : w1.cell? ⟨w.heap.size, 1, none⟩ = some (.int .i64 0) := (block_cells k1).1 1
    have z1 := (block_cells k1).2
    have HB2 : Aside (∀ x y, Below w.heap.size w ((w1.setCell ⟨w.heap.size, 0, none⟩ x).setCell ⟨w.heap.size, 1, none⟩ y)) := fun x y => (hB2.setCell (by simp) _).setCell (by simp) _
    clear hx hB1 k1 hB2 HF e1 e2
    go_wp2_with fail
    try simp only [Exit.inBlock, Exit.then]
    refine bodyPost_ret (v := .tuple #[.string ⟨#[]⟩, .agg #[.int .i64 25, .int .i64 k]]) (by simp [results, Tryd.results70, go_sem, c10, c11]) rfl ?_
    exact ⟨HA'.out, HB2.out _ _⟩
  · have HA' : Aside _ := HA.out.2 h30
    have h30' : ((mE : Int) == 30) = false := by simp; omega
    clear HA
    go_enter Tryd.func70, Tryd.ntmps70
    go_wp2_with fail
    refine hx.mono ?_
    rintro e w1 ⟨rfl, hB1⟩
    obtain ⟨k1, hB2⟩ := HF.out w1 hB1
    have c10 : w1.cell? ⟨w.heap.size, 0, none⟩ = some (.int .i64 0) := (block_cells k1).1 0
    have c11 : w1.cell? ⟨w.heap.size, 1, none⟩ = some (.int .i64 0) := (block_cells k1).1 1
    have z1 := (block_cells k1).2
    have HB2 : Aside (∀ x y, Below w.heap.size w ((w1.setCell ⟨w.heap.size, 0, none⟩ x).setCell ⟨w.heap.size, 1, none⟩ y)) := fun x y => (hB2.setCell (by simp) _).setCell (by simp) _
    clear hx hB1 k1 hB2 HF e1 e2
    go_wp2_with fail
    try simp only [Exit.inBlock, Exit.then]
    refine bodyPost_ret (v := .tuple #[.string sm, .agg #[.int .i64 mE, .int .i64 i]]) (by simp [results, Tryd.results70, go_sem, c10, c11]) rfl ?_
    exact ⟨HA'.out, HB2.out _ _⟩
end Go.Proofs.YthihnkgjkmaplaaDoor
namespace Go.Proofs.YthihnkgjkmaplaaDoor
open Go.RowKit
set_option maxRecDepth 100000
set_option linter.unusedSimpArgs false

theorem own_below {w w' : World} {base e size n : Nat} {v : Value} {xs : List Value} (h : w.ownsRow base e size v n xs) (hB : Below w.heap.size w w') : w'.ownsRow base e size v n xs :=
  h.kept (row := none) (grown_of_below (grownBy_refl _ _) hB) (by by_cases h : v.ownBlock = none; · exact .inl h
                                                                  exact .inr h)
/-- Where the kids of a node begin. -/
def kidsN (l : List Tr.Nd) (at0 : Int) : List Nat := if bhI l at0 = 0 then [] else (List.range ((l[at0.toNat]?.map Tr.Nd.kids).getD 0).toNat).map (Tr.kidAt l at0.toNat)
def icells (ks : List Nat) : List Value := ks.map fun (k : Nat) => Value.int .i64 (k : Int)
theorem icells_append (a b : List Nat) : icells (a ++ b) = icells a ++ icells b := by simp [icells]

/-- Of a part that is there: the node, how many kids, where they begin and where it ends. -/
theorem part_facts {l : List Tr.Nd} {p : Nat} (h : bhI l p ≠ 0) : ∃ (x : Tr.Nd) (n : Nat), l[p]? = some x ∧ x.kids = n ∧ kidsN l p = (List.range n).map (Tr.kidAt l p) ∧ Tr.kidAt l p n = bhI l p ∧ bhI l p ≤ l.length ∧ Tr.kidAt l p 0 = p + 1 ∧
    (∀ k, k < n → Tr.kidAt l p k < Tr.kidAt l p (k + 1) ∧ Tr.kidAt l p (k + 1) ≤ bhI l p ∧ Tr.kidAt l p (k + 1) = bhI l (Tr.kidAt l p k)) := by
  have hb : bhI l p = Tr.bh l p := by unfold bhI; rw [if_neg (by omega), Int.toNat_natCast]
  rw [hb] at h ⊢
  obtain ⟨t, rest, hw, hd⟩ := Tr.bh_some h
  obtain ⟨x, ks⟩ := t
  have hbt := Tr.bh_tree hd hw
  have hw' := hw
  rw [Tr.wf] at hw'
  have hx : l[p]? = some x := by have := Tr.at_drop (q := 0) hd; simpa [Tr.flat] using this
  have hk := fun k hk => Tr.kidAt_tree hw'.2 hd k hk
  have hfl : (Tr.flat (.nd x ks)).length = 1 + (Tr.flats ks).length := by simp [Tr.flat]; omega
  refine ⟨x, ks.length, hx, hw'.1, ?_, ?_, ?_, rfl, ?_⟩
  · unfold kidsN
    rw [hb, if_neg h, Int.toNat_natCast, hx]
    simp [hw'.1]
  · rw [hk _ (Nat.le_refl _), List.take_length, hbt, hfl]; omega
  · rw [hbt]
    have := congrArg List.length hd
    have := Tr.flat_pos (.nd x ks)
    simp at *
    omega
  · intro k hkl
    have e1 := hk k (by omega)
    have e2 := hk (k + 1) (by omega)
    have e3 : (Tr.flats (ks.take (k + 1))).length = (Tr.flats (ks.take k)).length + (Tr.flat ks[k]).length := by
      rw [List.take_add_one, List.getElem?_eq_getElem hkl, Tr.flats_append]; simp [Tr.flats]
    have e4 := Tr.flat_pos ks[k]
    have e5 : (Tr.flats (ks.take (k + 1))).length ≤ (Tr.flats ks).length := by
      have : Tr.flats ks = Tr.flats (ks.take (k + 1)) ++ Tr.flats (ks.drop (k + 1)) := by rw [← Tr.flats_append, List.take_append_drop]
      rw [this]; simp
    refine ⟨by omega, by rw [hbt, hfl]; omega, ?_⟩
    rw [Tr.kidAt]
    unfold bhI
    rw [if_neg (by omega), Int.toNat_natCast]

end Go.Proofs.YthihnkgjkmaplaaDoor
namespace Go.Proofs.YthihnkgjkmaplaaDoor
open Go.RowKit
set_option maxRecDepth 100000
set_option linter.unusedSimpArgs false

/-- The greatest depth; 0 of a list that isn't whole. -/
def deepN (l : List Tr.Nd) : Nat := if bhI l 0 = 0 ∨ bhI l 0 < l.length then 0 else Tr.mx (Tr.dps (Tr.kd l) [1]) 0
def DI (l : List Tr.Nd) (bd : Nat) (k : Nat) (st : List Nat) (w : World) : Prop :=
  ∃ d : Nat, w.cell? ⟨bd, 0, none⟩ = some (.int .i64 (d : Int)) ∧ w.frozen? ⟨bd, 0, none⟩ = false ∧ Tr.go (Tr.kd l) [1] 0 = Tr.go (Tr.kd (l.drop k)) st k ∧ Tr.mx (Tr.dps (Tr.kd l) [1]) 0 = Tr.mx (Tr.dps (Tr.kd (l.drop k)) st) d
def DJ (l : List Tr.Nd) (k : Nat) (_ : List Nat) (_ : World) : Prop := Tr.go (Tr.kd l) [1] 0 = (false, k)

end Go.Proofs.YthihnkgjkmaplaaDoor
namespace Go.Proofs.YthihnkgjkmaplaaDoor
open Go.RowKit
set_option maxRecDepth 100000
set_option linter.unusedSimpArgs false

/-- Are two nodes alike but for their places? -/
def likeB (x y : Tr.Nd) : Bool := decide (x.kind = y.kind) && decide (x.kids = y.kids) && decide (x.n = y.n) && decide (x.s.toList = y.s.toList) && decide (x.t.toList = y.t.toList) && decide (x.u.toList = y.u.toList)
/-- Are two lists alike but for places? -/
def likes : List Tr.Nd → List Tr.Nd → Bool
  | [], [] => true
  | x :: a, y :: b => likeB x y && likes a b
  | _, _ => false
theorem likes_len : ∀ {a b : List Tr.Nd}, a.length ≠ b.length → likes a b = false
  | [], [], h => absurd rfl h
  | [], _ :: _, _ => rfl
  | _ :: _, [], _ => rfl
  | x :: a, y :: b, h => by rw [likes, likes_len (by simpa using h), Bool.and_false]
theorem getc {a : List Tr.Nd} {k : Nat} (h : k < a.length) : ∃ x, a[k]? = some x ∧ a.drop k = x :: a.drop (k + 1) := ⟨a[k], List.getElem?_eq_getElem h, List.drop_eq_getElem_cons h⟩

end Go.Proofs.YthihnkgjkmaplaaDoor
