/- Package check: with; ask, meet, made. Package check: made, meet. Package check: operate, list, choose. Package check: list, choose. -/
import Derived.Test.YthdlfeejeboboaaDoorUah
namespace Go.Proofs.YthdlfeejeboboaaDoor
open Go.RowKit Ck
open T3.Tp (Ty enc cns met)
set_option maxRecDepth 100000
set_option linter.unusedSimpArgs false

theorem look_cons (n : ByteArray) (t : Ty) (env : Env) (m : ByteArray) : lookS ((n.data.toList, t) :: env) m = (if m = n then S (enc t) else lookS env m) ∧ lookB ((n.data.toList, t) :: env) m = (if m = n then true else lookB env m) := by
  have hl : Ck.look ((n.data.toList, t) :: env) m.data.toList = if m.data.toList = n.data.toList then some t else Ck.look env m.data.toList := rfl
  unfold lookS lookB
  rw [hl]
  by_cases h : m = n
  · subst h; simp
  · have : ¬ m.data.toList = n.data.toList := fun e => h (by cases m; cases n; simpa using e)
    simp [h, this]
theorem enters_with1 : ∀ args w, (callFunc 64 args).run Tryd.prog w = .ok (.enter 64 args) w := enters_of Tryd.func64 (by kernel_rfl) rfl

set_option maxHeartbeats 1000000 in
theorem with1_any (w : World) (g1 g2 g3 F : Nat) (caps : Array Value) (n m : ByteArray) (t : Ty) (env : Env)
    (hE : ∀ args w, (callFunc F args).run Tryd.prog w = .ok (.enter F args) w)
    (h1 : w.cell? ⟨g1, 0, none⟩ = some (.string n)) (h2 : w.cell? ⟨g2, 0, none⟩ = some (.string (S (enc t)))) (h3 : w.cell? ⟨g3, 0, none⟩ = some (.func (.func F) #[] caps))
    (hC : Calls Tryd.prog F (#[.string m] ++ caps) w fun e w2 => e = .returned (.tuple #[.string (lookS env m), .bool (lookB env m)]) ∧ w2 = w) :
    Calls Tryd.prog 64 #[.string m, .pointer (some ⟨g1, 0, none⟩), .pointer (some ⟨g2, 0, none⟩), .pointer (some ⟨g3, 0, none⟩)] w fun e w2 => e = .returned (.tuple #[.string (lookS ((n.data.toList, t) :: env) m), .bool (lookB ((n.data.toList, t) :: env) m)]) ∧ w2 = w := by
  rw [(look_cons n t env m).1, (look_cons n t env m).2]
  generalize S (enc t) = st at *
  by_cases h : m = n
  · subst h
    rw [if_pos rfl, if_pos rfl]
    have hb : (m.toList == m.toList) = true := by simp
    clear hC
    go_enter Tryd.func64, Tryd.ntmps64
    go_wp2_with fail
    go_ret2
    exact ⟨rfl, rfl⟩
  · rw [if_neg h, if_neg h]
    have hb : (m.toList == n.toList) = false := (Lib.bytes_beq_false_iff m n).2 h
    go_enter Tryd.func64, Tryd.ntmps64
    go_wp2_with (refine hC.mono ?_; rintro e w2 ⟨rfl, rfl⟩)
    go_ret2
    exact ⟨rfl, rfl⟩

set_option maxHeartbeats 1000000 in
theorem with_any (a b : Nat) (w : World) (v : Value) (env : Env) (n : ByteArray) (t : Ty) (hS : Scope a b w v env) (ha : a < w.heap.size) (hb : b < w.heap.size) :
    Calls Tryd.prog 49 #[v, .string n, .string (S (enc t))] w fun e w' => ∃ v', e = .returned v' ∧ Scope a b w' v' ((n.data.toList, t) :: env) ∧ Below w.heap.size w w' := by
  obtain ⟨F, caps, rfl, hE, hC⟩ := hS
  have hB : Below w.heap.size w (((w.alloc (.cells #[.func (.func F) #[] caps] 53)).alloc (.cells #[.string n] 9)).alloc (.cells #[.string (S (enc t))] 9)) := (((Below.refl _ _).alloc (Nat.le_refl _) _).alloc (by simp) _).alloc (by simp; omega) _
  have k0 : (((w.alloc (.cells #[.func (.func F) #[] caps] 53)).alloc (.cells #[.string n] 9)).alloc (.cells #[.string (S (enc t))] 9)).cell? ⟨w.heap.size, 0, none⟩ = some (.func (.func F) #[] caps) := T3.cell_old rfl (by simp; omega) (T3.cell_old rfl (by simp) (T3.cell_new rfl rfl))
  have k1 : (((w.alloc (.cells #[.func (.func F) #[] caps] 53)).alloc (.cells #[.string n] 9)).alloc (.cells #[.string (S (enc t))] 9)).cell? ⟨w.heap.size + 1, 0, none⟩ = some (.string n) := T3.cell_old rfl (by simp) (T3.cell_new rfl (by simp))
  have k2 : (((w.alloc (.cells #[.func (.func F) #[] caps] 53)).alloc (.cells #[.string n] 9)).alloc (.cells #[.string (S (enc t))] 9)).cell? ⟨w.heap.size + 2, 0, none⟩ = some (.string (S (enc t))) := T3.cell_new rfl (by simp)
  have hz : (((w.alloc (.cells #[.func (.func F) #[] caps] 53)).alloc (.cells #[.string n] 9)).alloc (.cells #[.string (S (enc t))] 9)).heap.size = w.heap.size + 3 := by simp
  have HS : Aside (∀ W, W = (((w.alloc (.cells #[.func (.func F) #[] caps] 53)).alloc (.cells #[.string n] 9)).alloc (.cells #[.string (S (enc t))] 9)) → Below w.heap.size w W ∧ Scope a b W (.func (.func 64) #[] #[.pointer (some ⟨w.heap.size + 1, 0, none⟩), .pointer (some ⟨w.heap.size + 2, 0, none⟩), .pointer (some ⟨w.heap.size, 0, none⟩)]) ((n.data.toList, t) :: env)) := by
    intro W hW
    rw [← hW] at hB k0 k1 k2 hz
    refine ⟨hB, _, _, rfl, enters_with1, fun w' hw m hm => ?_⟩
    exact with1_any w' _ _ _ F caps n m t env hE ((hw.cell (by simp; omega) (by simp; omega) (by simp; omega)).trans k1) ((hw.cell (by simp; omega) (by simp; omega) (by simp; omega)).trans k2) ((hw.cell (by simp; omega) (by simp; omega) (by simp; omega)).trans k0) (hC w' ((below_two hB a b).trans hw) m hm)
  clear hB k0 k1 k2 hz hC hE
  generalize S (enc t) = st at *
  go_enter Tryd.func49, Tryd.ntmps49
  go_wp2_with fail
  go_ret
  have := HS.out _ rfl
  exact ⟨_, rfl, this.2, this.1⟩

/-- A refusal. -/
def rf (c p : Int) : Value := .agg #[.int .i64 c, .int .i64 p]
/-- The checker's block holds the row of types. -/
def HasT (w : World) (cb tb n : Nat) : Prop := w.cell? ⟨cb, 1, none⟩ = some (.slice (some ⟨tb, 0, none⟩) n n)
theorem HasT.below {w w' : World} {cb tb n : Nat} (h : HasT w cb tb n) (hc : cb < w.heap.size) (hB : Below w.heap.size w w') : HasT w' cb tb n := (hB.cell (p := ⟨cb, 1, none⟩) hc).trans h

set_option maxHeartbeats 1000000 in
theorem ask_any (w : World) (cb tb n k : Nat) (t u : Ty) (c p : Int) (hT : HasT w cb tb n) (hk : k < n) (ht : w.cell? ⟨tb, k, none⟩ = some (.string (S (enc t)))) (h1 : (enc t).length ≤ 64) (h2 : (enc u).length ≤ 64) :
    Calls Tryd.prog 51 #[.pointer (some ⟨cb, 0, none⟩), .int .i64 (k : Int), .string (S (enc u)), rf c p] w fun e w' => e = .returned (if cns t u then rf 0 0 else rf c p) ∧ Below w.heap.size w w' := by
  have hC : ∀ w, Calls Tryd.prog 65 #[.string (S (enc t)), .string (S (enc u))] w fun e w' => e = .returned (.bool (cns t u)) ∧ Below w.heap.size w w' := T3.consistent_yes t u h1 h2
  have hcb : cb < w.heap.size := World.block_lt_of_cell? _ _ hT
  have htb : tb < w.heap.size := World.block_lt_of_cell? _ _ ht
  unfold rf
  have hT' := hT
  unfold HasT at hT'
  have hk' : (k : Int) < (n : Int) := by omega
  have hk0 : (0 : Int) ≤ (k : Int) := by omega
  have e1 : ∀ o1 o2, ((w.alloc o1).alloc o2).cell? ⟨cb, 1, none⟩ = some (.slice (some ⟨tb, 0, none⟩) n n) := fun o1 o2 => ((((Below.refl _ _).alloc (Nat.le_refl _) o1).alloc (by simp) o2 : Below w.heap.size w _).cell hcb).trans hT'
  have e2 : ∀ o1 o2, ((w.alloc o1).alloc o2).cell? ⟨tb, k, none⟩ = some (.string (S (enc t))) := fun o1 o2 => ((((Below.refl _ _).alloc (Nat.le_refl _) o1).alloc (by simp) o2 : Below w.heap.size w _).cell htb).trans ht
  have HB : Aside (∀ o1 o2 W, Below ((w.alloc o1).alloc o2).heap.size ((w.alloc o1).alloc o2) W → Below w.heap.size w W) := fun o1 o2 W h => (((Below.refl _ _).alloc (Nat.le_refl _) o1).alloc (by simp) o2).trans (h.mono (by simp; omega))
  clear hT ht hT'
  show Calls _ _ _ _ fun e w' => e = .returned (if cns t u = true then Value.agg #[.int .i64 0, .int .i64 0] else .agg #[.int .i64 c, .int .i64 p]) ∧ _
  generalize S (T3.Tp.enc t) = st at *
  generalize S (T3.Tp.enc u) = su at *
  have f1 : ∀ W, Below ((w.alloc (.cells #[.int .i64 c, .int .i64 p] 61)).alloc (.cells #[.int .i64 0, .int .i64 0] 61)).heap.size ((w.alloc (.cells #[.int .i64 c, .int .i64 p] 61)).alloc (.cells #[.int .i64 0, .int .i64 0] 61)) W →
      W.heap[w.heap.size]? = some (.cells #[.int .i64 c, .int .i64 p] 61) ∧ W.heap[w.heap.size + 1]? = some (.cells #[.int .i64 0, .int .i64 0] 61) := fun W hW =>
    ⟨(hW.block _ (by simp; omega)).trans ((Below.heap_alloc _ _ _ (by simp)).trans (heap_alloc_new _ _)), (hW.block _ (by simp)).trans (by have := heap_alloc_new (w.alloc (.cells #[.int .i64 c, .int .i64 p] 61)) (.cells #[.int .i64 0, .int .i64 0] 61); simpa using this)⟩
  have HF : Aside _ := f1
  clear f1
  cases hq : T3.Tp.cns t u with
  | true =>
    rw [hq] at hC
    go_enter Tryd.func51, Tryd.ntmps51
    go_wp2_with fail
    refine (hC _).mono ?_
    rintro e w1 ⟨rfl, hB1⟩
    obtain ⟨k0, k1⟩ := HF.out w1 hB1
    obtain ⟨c1, z1⟩ := block_cells k1
    have c00 : w1.cell? ⟨w.heap.size, 0, none⟩ = some (.int .i64 c) := (block_cells k0).1 0
    have c01 : w1.cell? ⟨w.heap.size, 1, none⟩ = some (.int .i64 p) := (block_cells k0).1 1
    have c10 : w1.cell? ⟨w.heap.size + 1, 0, none⟩ = some (.int .i64 0) := c1 0
    have c11 : w1.cell? ⟨w.heap.size + 1, 1, none⟩ = some (.int .i64 0) := c1 1
    have HB1 := HB.out _ _ w1 hB1
    have HB2 : Aside (∀ x y, Below w.heap.size w ((w1.setCell ⟨w.heap.size + 1, 0, none⟩ x).setCell ⟨w.heap.size + 1, 1, none⟩ y)) := fun x y => (HB1.setCell (by simp) _).setCell (by simp) _
    clear hC hB1 HB HB1 k0 k1 HF e1 e2 c1
    go_wp2_with fail
    try simp only [Exit.inBlock, Exit.then]
    refine bodyPost_ret (v := .agg #[.int .i64 0, .int .i64 0]) (by simp [results, Tryd.results51, go_sem, c10, c11]) rfl ?_
    exact ⟨rfl, HB2.out _ _⟩
  | false =>
    rw [hq] at hC
    go_enter Tryd.func51, Tryd.ntmps51
    go_wp2_with fail
    refine (hC _).mono ?_
    rintro e w1 ⟨rfl, hB1⟩
    obtain ⟨k0, k1⟩ := HF.out w1 hB1
    obtain ⟨c1, z1⟩ := block_cells k1
    have c00 : w1.cell? ⟨w.heap.size, 0, none⟩ = some (.int .i64 c) := (block_cells k0).1 0
    have c01 : w1.cell? ⟨w.heap.size, 1, none⟩ = some (.int .i64 p) := (block_cells k0).1 1
    have c10 : w1.cell? ⟨w.heap.size + 1, 0, none⟩ = some (.int .i64 0) := c1 0
    have c11 : w1.cell? ⟨w.heap.size + 1, 1, none⟩ = some (.int .i64 0) := c1 1
    have HB1 := HB.out _ _ w1 hB1
    have HB2 : Aside (∀ x y, Below w.heap.size w ((w1.setCell ⟨w.heap.size + 1, 0, none⟩ x).setCell ⟨w.heap.size + 1, 1, none⟩ y)) := fun x y => (HB1.setCell (by simp) _).setCell (by simp) _
    clear hC hB1 HB HB1 k0 k1 HF e1 e2 c1
    go_wp2_with fail
    try simp only [Exit.inBlock, Exit.then]
    refine bodyPost_ret (v := .agg #[.int .i64 c, .int .i64 p]) (by simp [results, Tryd.results51, go_sem, c10, c11]) rfl ?_
    exact ⟨rfl, HB2.out _ _⟩
end Go.Proofs.YthdlfeejeboboaaDoor
namespace Go.Proofs.YthdlfeejeboboaaDoor
open Go.RowKit Ck
open T3.Tp (Ty enc cns met)
set_option maxRecDepth 100000
set_option linter.unusedSimpArgs false

/-- What a rule answers: a type, or a refusal. -/
def Ans (r : Rs Ty) (e : Ending) : Prop := match r with
  | .ok t => ∃ p : Int, e = .returned (.tuple #[.string (S (enc t)), rf 0 p])
  | .error q => q.1 ≠ 0 ∧ ∃ s, e = .returned (.tuple #[.string s, rf q.1 q.2])

theorem mkF_of (t : Ty) (h : ∀ u ∈ T3.Tp.kids t, (enc u).length ≤ 64) : T3.Tp.mkF (T3.Tp.hd t) ((T3.Tp.kids t).map enc) = if (enc t).length ≤ 64 then (0, enc t) else (21, []) := by
  have h1 : T3.Tp.ar (T3.Tp.hd t).toNat = ((T3.Tp.kids t).map enc).length := by rw [T3.Tp.ar_hd, List.length_map]
  have h2 : T3.Tp.firstBad ((T3.Tp.kids t).map enc) = 0 := T3.Tp.firstBad_encs _ h
  have h3 : enc t = T3.Tp.hd t :: ((T3.Tp.kids t).map enc).flatten := T3.Tp.enc_eq t
  have h4 : (enc t).length = 1 + ((T3.Tp.kids t).map enc).flatten.length := by rw [h3]; simp [Nat.add_comm]
  by_cases hl : (enc t).length ≤ 64
  · rw [if_pos hl, T3.Tp.mk_ok h1 h2 (by omega), ← h3]
  · rw [if_neg hl, T3.Tp.mk_large h1 h2 (by omega)]

set_option maxHeartbeats 1000000 in
theorem made_any (t : Ty) (i : Nat) (v : Value) (w : World) (h : ∀ u ∈ T3.Tp.kids t, (enc u).length ≤ 64) (hv : T3.IsTexts w v ((T3.Tp.kids t).map enc)) (hk : (T3.Tp.kids t).length ≤ 2) :
    Calls Tryd.prog 53 #[.int .i64 (i : Int), .int .u8 ((T3.Tp.hd t).toNat : Int), v] w fun e w' => Ans (made i t) e ∧ Below w.heap.size w w' := by
  have hM : ∀ w' : World, Below w.heap.size w w' → Calls Tryd.prog 47 #[.int .u8 ((T3.Tp.hd t).toNat : Int), v] w' fun e w2 => e = .returned (.tuple #[.string (S (T3.Tp.mkF (T3.Tp.hd t) ((T3.Tp.kids t).map enc)).2), .int .i64 (T3.Tp.mkF (T3.Tp.hd t) ((T3.Tp.kids t).map enc)).1]) ∧ Below w'.heap.size w' w2 :=
    fun w' hB => T3.make_any (T3.Tp.hd t) v _ w' (hv.below hB) (by rw [List.length_map]; omega)
  rw [mkF_of t h] at hM
  have HA : Aside (∀ x y, (x, y) = (if (enc t).length ≤ 64 then ((0 : Nat), enc t) else (21, [])) → Ans (made i t) (.returned (.tuple #[.string (S y), rf (x : Int) (i : Int)]))) := by
    intro x y hxy
    unfold made
    by_cases hl : (enc t).length ≤ 64
    · rw [if_pos hl] at hxy; cases hxy
      rw [if_pos hl]; exact ⟨_, rfl⟩
    · rw [if_neg hl] at hxy; cases hxy
      rw [if_neg hl]; exact ⟨by simp, _, rfl⟩
  have h1 := hM _ ((Below.refl _ _).alloc (Nat.le_refl _) (.cells #[.int .i64 0, .int .i64 0] 61))
  generalize (if (enc t).length ≤ 64 then ((0 : Nat), enc t) else (21, [])) = xy at *
  obtain ⟨x, y⟩ := xy
  replace HA := HA.out x y rfl
  have HA' : Aside _ := HA
  clear hM HA hv
  simp only at h1
  generalize ((T3.Tp.hd t).toNat : Int) = hh at *
  generalize S y = sy at *
  go_enter Tryd.func53, Tryd.ntmps53
  go_wp2_with fail
  refine h1.mono ?_
  rintro e w1 ⟨rfl, hB1⟩
  have k1 : w1.heap[w.heap.size]? = some (.cells #[.int .i64 0, .int .i64 0] 61) := (hB1.block _ (by simp)).trans (heap_alloc_new _ _)
  have c10 : w1.cell? ⟨w.heap.size, 0, none⟩ = some (.int .i64 0) := (block_cells k1).1 0
  have c11 : w1.cell? ⟨w.heap.size, 1, none⟩ = some (.int .i64 0) := (block_cells k1).1 1
  have z1 := (block_cells k1).2
  have HB2 : Aside (∀ x y, Below w.heap.size w ((w1.setCell ⟨w.heap.size, 0, none⟩ x).setCell ⟨w.heap.size, 1, none⟩ y)) := fun x y => ((((Below.refl _ _).alloc (Nat.le_refl _) _).trans (hB1.mono (by simp))).setCell (by simp) _).setCell (by simp) _
  clear h1 hB1 k1
  go_wp2_with fail
  try simp only [Exit.inBlock, Exit.then]
  refine bodyPost_ret (v := .tuple #[.string sy, .agg #[.int .i64 x, .int .i64 i]]) (by simp [results, Tryd.results53, go_sem, c10, c11]) rfl ?_
  exact ⟨HA'.out, HB2.out _ _⟩

set_option maxHeartbeats 1000000 in
theorem ckMeet_any (w : World) (cb tb n k i : Nat) (a t : Ty) (hT : HasT w cb tb n) (hk : k < n) (ht : w.cell? ⟨tb, k, none⟩ = some (.string (S (enc t)))) (h1 : (enc t).length ≤ 64) (h2 : (enc a).length ≤ 64) :
    Calls Tryd.prog 66 #[.pointer (some ⟨cb, 0, none⟩), .int .i64 (i : Int), .string (S (enc a)), .int .i64 (k : Int)] w fun e w' => Ans (meetK i a (k, t)) e ∧ Below w.heap.size w w' := by
  have hC : ∀ w, Calls Tryd.prog 76 #[.string (S (enc a)), .string (S (enc t))] w fun e w' => e = .returned (.tuple #[.string (S (T3.mtS a t)), .int .i64 (T3.mtE a t : Nat)]) ∧ Below w.heap.size w w' := T3.meet_yes a t h2 h1
  have hcb : cb < w.heap.size := World.block_lt_of_cell? _ _ hT
  have htb : tb < w.heap.size := World.block_lt_of_cell? _ _ ht
  unfold HasT at hT
  have hk' : (k : Int) < (n : Int) := by omega
  have hk0 : (0 : Int) ≤ (k : Int) := by omega
  have hBa : ∀ o, Below w.heap.size w (w.alloc o) := fun o => (Below.refl _ _).alloc (Nat.le_refl _) o
  have e1 : ∀ o, (w.alloc o).cell? ⟨cb, 1, none⟩ = some (.slice (some ⟨tb, 0, none⟩) n n) := fun o => ((hBa o).cell hcb).trans hT
  have e2 : ∀ o, (w.alloc o).cell? ⟨tb, k, none⟩ = some (.string (S (enc t))) := fun o => ((hBa o).cell htb).trans ht
  have HA : Aside ((T3.mtE a t = 30 → Ans (meetK i a (k, t)) (.returned (.tuple #[.string ⟨#[]⟩, rf 25 k]))) ∧ (T3.mtE a t ≠ 30 → Ans (meetK i a (k, t)) (.returned (.tuple #[.string (S (T3.mtS a t)), rf (T3.mtE a t : Nat) i])))) := by
    show _ ∧ _
    unfold T3.mtE T3.mtS meetK
    simp only
    cases hq : cns a t with
    | false => exact ⟨fun _ => ⟨by simp, _, rfl⟩, fun h => absurd rfl h⟩
    | true =>
      simp only [if_true]
      unfold T3.Tp.merr T3.Tp.val
      by_cases hl : (enc (met a t)).length ≤ 64
      · rw [if_pos hl, if_pos hl, if_pos hl]; exact ⟨fun h => absurd h (by decide), fun _ => ⟨_, rfl⟩⟩
      · rw [if_neg hl, if_neg hl, if_neg hl]; exact ⟨fun h => absurd h (by decide), fun _ => ⟨by simp, _, rfl⟩⟩
  have hx := hC (w.alloc (.cells #[.int .i64 0, .int .i64 0] 61))
  clear hT ht hC
  have HF : Aside (∀ W, Below (w.alloc (.cells #[.int .i64 0, .int .i64 0] 61)).heap.size (w.alloc (.cells #[.int .i64 0, .int .i64 0] 61)) W → W.heap[w.heap.size]? = some (.cells #[.int .i64 0, .int .i64 0] 61) ∧ Below w.heap.size w W) := fun W hW => ⟨(hW.block _ (by simp)).trans (heap_alloc_new _ _), (hBa _).trans (hW.mono (by simp))⟩
  clear hBa
  generalize T3.mtE a t = mE at *
  generalize S (T3.mtS a t) = sm at *
  generalize S (enc t) = st at *
  generalize S (enc a) = sa at *
  by_cases h30 : mE = 30
  · subst h30
    have HA' : Aside _ := HA.out.1 rfl
    clear HA
    go_enter Tryd.func66, Tryd.ntmps66
    go_wp2_with fail
    refine hx.mono ?_
    rintro e w1 ⟨rfl, hB1⟩
    obtain ⟨k1, hB2⟩ := HF.out w1 hB1
    have c10 : w1.cell? ⟨w.heap.size, 0, none⟩ = some (.int .i64 0) := (block_cells k1).1 0
    have c11 : w1.cell? ⟨w.heap.size, 1, none⟩ = some (.int .i64 0) := (block_cells k1).1 1
    have z1 := (block_cells k1).2
    have HB2 : Aside (∀ x y, Below w.heap.size w ((w1.setCell ⟨w.heap.size, 0, none⟩ x).setCell ⟨w.heap.size, 1, none⟩ y)) := fun x y => (hB2.setCell (by simp) _).setCell (by simp) _
    clear hx hB1 k1 hB2 HF e1 e2
    go_wp2_with fail
    try simp only [Exit.inBlock, Exit.then]
    refine bodyPost_ret (v := .tuple #[.string ⟨#[]⟩, .agg #[.int .i64 25, .int .i64 k]]) (by simp [results, Tryd.results66, go_sem, c10, c11]) rfl ?_
    exact ⟨HA'.out, HB2.out _ _⟩
  · have HA' : Aside _ := HA.out.2 h30
    have h30' : ((mE : Int) == 30) = false := by simp; omega
    clear HA
    go_enter Tryd.func66, Tryd.ntmps66
    go_wp2_with fail
    refine hx.mono ?_
    rintro e w1 ⟨rfl, hB1⟩
    obtain ⟨k1, hB2⟩ := HF.out w1 hB1
    have c10 : w1.cell? ⟨w.heap.size, 0, none⟩ = some (.int .i64 0) := (block_cells k1).1 0
    have c11 : w1.cell? ⟨w.heap.size, 1, none⟩ = some (.int .i64 0) := (block_cells k1).1 1
    have z1 := (block_cells k1).2
    have HB2 : Aside (∀ x y, Below w.heap.size w ((w1.setCell ⟨w.heap.size, 0, none⟩ x).setCell ⟨w.heap.size, 1, none⟩ y)) := fun x y => (hB2.setCell (by simp) _).setCell (by simp) _
    clear hx hB1 k1 hB2 HF e1 e2
    go_wp2_with fail
    try simp only [Exit.inBlock, Exit.then]
    refine bodyPost_ret (v := .tuple #[.string sm, .agg #[.int .i64 mE, .int .i64 i]]) (by simp [results, Tryd.results66, go_sem, c10, c11]) rfl ?_
    exact ⟨HA'.out, HB2.out _ _⟩
end Go.Proofs.YthdlfeejeboboaaDoor
namespace Go.Proofs.YthdlfeejeboboaaDoor
open Go.RowKit Ck
open T3.Tp (Ty enc cns met)
set_option maxRecDepth 100000
set_option linter.unusedSimpArgs false

/-- A node's kids: their places in a row of ints, their types in the row of types. -/
structure Kds (w : World) (tb n : Nat) (v : Value) (ks : List (Nat × Ty)) : Prop where
  form : ∃ a, v = .slice a ks.length ks.length
  len : ks.length ≤ 4096
  at' : ∀ (j : Nat) (k : Nat × Ty), ks[j]? = some k → ∃ kb, v = .slice (some ⟨kb, 0, none⟩) ks.length ks.length ∧ w.cell? ⟨kb, j, none⟩ = some (.int .i64 (k.1 : Int)) ∧ k.1 < n ∧ w.cell? ⟨tb, k.1, none⟩ = some (.string (S (enc k.2))) ∧ (enc k.2).length ≤ 64
theorem Kds.below {w w' : World} {tb n : Nat} {v : Value} {ks : List (Nat × Ty)} (h : Kds w tb n v ks) (hB : Below w.heap.size w w') : Kds w' tb n v ks :=
  ⟨h.form, h.len, fun j k e => by
    obtain ⟨kb, h1, h2, h3, h4, h5⟩ := h.at' j k e
    exact ⟨kb, h1, (hB.cell (p := ⟨kb, j, none⟩) (World.block_lt_of_cell? _ _ h2)).trans h2, h3, (hB.cell (p := ⟨tb, k.1, none⟩) (World.block_lt_of_cell? _ _ h4)).trans h4, h5⟩⟩

theorem asks_drop {u : Ty} {ks : List (Nat × Ty)} {j : Nat} {k : Nat × Ty} (h : ks[j]? = some k) : asks u (ks.drop j) = if cns k.2 u then asks u (ks.drop (j + 1)) else .error (23, k.1) := by
  rw [List.drop_eq_getElem_cons (List.getElem?_eq_some_iff.1 h).1, (List.getElem?_eq_some_iff.1 h).2]
  rfl
theorem meets_drop {i : Nat} {a : Ty} {ks : List (Nat × Ty)} {j : Nat} {k : Nat × Ty} (h : ks[j]? = some k) : meets i a (ks.drop j) = match meetK i a k with | .error e => .error e | .ok b => meets i b (ks.drop (j + 1)) := by
  rw [List.drop_eq_getElem_cons (List.getElem?_eq_some_iff.1 h).1, (List.getElem?_eq_some_iff.1 h).2]
  rfl

set_option maxHeartbeats 4000000 in
theorem operate_any (w : World) (cb tb n : Nat) (kv : Value) (ks : List (Nat × Ty)) (sa : ByteArray) (o : Ty × Ty) (hT : HasT w cb tb n) (hK : Kds w tb n kv ks) (hs : ks = [] ∨ sa = S (enc o.1)) (ho : (enc o.1).length ≤ 64) :
    Calls Tryd.prog 56 #[.pointer (some ⟨cb, 0, none⟩), .agg #[.string sa, .string (S (enc o.2))], kv] w fun e w' => Ans (opr o ks) e ∧ Below w.heap.size w w' := by
  have hcb : cb < w.heap.size := World.block_lt_of_cell? _ _ hT
  obtain ⟨ka, rfl⟩ := hK.form
  have hlen := hK.len
  have HK : Aside (∀ w', Below w.heap.size w w' → HasT w' cb tb n ∧ Kds w' tb n (.slice ka ks.length ks.length) ks) := fun w' hB => ⟨hT.below hcb hB, hK.below hB⟩
  have HO : Aside (ks = [] ∨ sa = S (enc o.1)) := hs
  clear hs hT hK
  obtain ⟨w0, hw0⟩ : ∃ w0, w0 = (w.alloc (.cells #[.string sa, .string (S (enc o.2))] 108)).alloc (.cells #[.int .i64 0, .int .i64 0] 61) := ⟨_, rfl⟩
  have hB0 : Below w.heap.size w w0 := by rw [hw0]; exact ((Below.refl _ _).alloc (Nat.le_refl _) _).alloc (by simp) _
  have hz0 : w0.heap.size = w.heap.size + 2 := by rw [hw0]; simp
  have b0 : w0.heap[w.heap.size]? = some (.cells #[.string sa, .string (S (enc o.2))] 108) := by rw [hw0]; exact (Below.heap_alloc _ _ _ (by simp)).trans (heap_alloc_new _ _)
  have b1 : w0.heap[w.heap.size + 1]? = some (.cells #[.int .i64 0, .int .i64 0] 61) := by rw [hw0]; have := heap_alloc_new (w.alloc (.cells #[.string sa, .string (S (enc o.2))] 108)) (.cells #[.int .i64 0, .int .i64 0] 61); simpa using this
  have HI : Aside (∀ wr, Below w0.heap.size w0 wr → (wr.cell? ⟨w.heap.size, 0, none⟩ = some (.string sa) ∧ wr.cell? ⟨w.heap.size, 1, none⟩ = some (.string (S (enc o.2)))) ∧ (wr.cell? ⟨w.heap.size + 1, 0, none⟩ = some (.int .i64 0) ∧ wr.cell? ⟨w.heap.size + 1, 1, none⟩ = some (.int .i64 0)) ∧ (∀ q, wr.frozen? ⟨w.heap.size + 1, q, none⟩ = false) ∧ Below w.heap.size w wr) := fun wr hB => by
    have k0 := (hB.block _ (by omega)).trans b0
    have k1 := (hB.block _ (by omega)).trans b1
    exact ⟨⟨(block_cells k0).1 0, (block_cells k0).1 1⟩, ⟨(block_cells k1).1 0, (block_cells k1).1 1⟩, (block_cells k1).2, hB0.trans (hB.mono (by omega))⟩
  go_enter Tryd.func56, Tryd.ntmps56
  go_wp2_with fail
  rw [← hw0]
  clear hw0
  go_loopg [13] ks.length (fun g t wr => ∃ j : Nat, j + g = ks.length ∧ t = .int .i64 (j : Int) ∧ Below w0.heap.size w0 wr ∧ Aside (opr o ks = match asks o.1 (ks.drop j) with | .error e => .error e | .ok _ => .ok o.2))
  case atStart => exact ⟨0, by omega, rfl, Below.refl _ _, rfl⟩
  case round =>
    obtain ⟨j, hjg, rfl, hB, HR⟩ := hrel
    obtain ⟨⟨f0, f1⟩, ⟨c0, c1⟩, z1, hBw⟩ := HI.out wr hB
    by_cases hj : j < ks.length
    · have hj' : (j : Int) < (ks.length : Int) := by omega
      obtain ⟨k, hk⟩ : ∃ k, ks[j]? = some k := ⟨_, List.getElem?_eq_getElem hj⟩
      obtain ⟨hT1, hK1⟩ := HK.out wr hBw
      obtain ⟨kb, h1, h2, h3, h4, h5⟩ := hK1.at' j k hk
      obtain rfl : ka = some ⟨kb, 0, none⟩ := by simpa using h1
      have hs : sa = S (enc o.1) := HO.out.resolve_left (fun h => by rw [h] at hj; simp at hj)
      have HA := ask_any wr cb tb n k.1 k.2 o.1 23 (k.1 : Int) hT1 h3 h4 h5 ho
      rw [← hs] at HA
      unfold rf at HA
      have HR2 := HR.out
      rw [asks_drop hk] at HR2
      clear HI HK h1 hT1 hK1 HR hs HO h4 b0 b1
      cases hq : cns k.2 o.1 with
      | true =>
        rw [hq] at HA HR2
        simp only [if_true] at HA HR2
        have HR3 : Aside _ := HR2
        clear HR2
        go_wp2_with fail
        refine HA.mono ?_
        rintro e w1 ⟨rfl, hB1⟩
        have HB2 : Aside (∀ o, Below w0.heap.size w0 (w1.alloc o)) := fun o => by
          have h := hB.trans (hB1.mono (by have := hB.size; omega))
          exact h.alloc h.size _
        clear HA
        go_wp2_with fail
        go_roundg (gk - 1)
        case measure => omega
        case rel => exact ⟨j + 1, by omega, by go_num, HB2.out _, HR3⟩
      | false =>
        rw [hq] at HA HR2
        have HR3 : Aside (opr o ks = .error (23, k.1)) := HR2
        simp only [Bool.false_eq_true, if_false] at HA
        clear HR2
        go_wp2_with fail
        refine HA.mono ?_
        rintro e w1 ⟨rfl, hB1⟩
        have c10 := (hB1.cell (p := ⟨w.heap.size + 1, 0, none⟩) (World.block_lt_of_cell? _ _ c0)).trans c0
        have c11 := (hB1.cell (p := ⟨w.heap.size + 1, 1, none⟩) (World.block_lt_of_cell? _ _ c1)).trans c1
        have hBF := (hBw.trans (hB1.mono (by have := hBw.size; omega)))
        have z10 : ∀ q, w1.frozen? ⟨w.heap.size + 1, q, none⟩ = false := fun q => by
          have hlt : w.heap.size + 1 < wr.heap.size := World.block_lt_of_cell? _ _ c0
          rw [← z1 q]; unfold World.frozen?; rw [hB1.block _ hlt]
        have hlt : w.heap.size + 1 < w1.heap.size := World.block_lt_of_cell? _ _ c10
        have HBF : Aside _ := hBF
        clear HA hBF z1 c0 c1 f0 f1 hB1 hBw
        go_wp2_with fail
        go_region
        all_goals
          go_wp2_with fail
          try simp only [Exit.inBlock, Exit.then]
          refine bodyPost_ret (v := .tuple #[.string ⟨#[]⟩, .agg #[.int .i64 23, .int .i64 k.1]]) (by simp [results, Tryd.results56, go_sem, c10, c11, hlt, Nat.ne_of_lt hlt]) rfl ?_
          refine ⟨by rw [HR3.out]; exact ⟨by simp, _, rfl⟩, ?_⟩
          have h1 := ((HBF.out.setCell (p := ⟨w.heap.size + 1, 0, none⟩) (by simp) (.int .i64 23)).setCell (p := ⟨w.heap.size + 1, 1, none⟩) (by simp) (.int .i64 k.1))
          have h2 := h1.alloc h1.size (.cells #[.int .i64 23, .int .i64 k.1] 61)
          exact ⟨h2.os, h2.tape, h2.output, h2.size, h2.block⟩
    · have hj' : ¬ (j : Int) < (ks.length : Int) := by omega
      have HR2 := HR.out
      rw [List.drop_eq_nil_of_le (by omega)] at HR2
      have HR3 : Aside (opr o ks = .ok o.2) := HR2
      have HBF : Aside (∀ x y, Below w.heap.size w ((wr.setCell ⟨w.heap.size + 1, 0, none⟩ x).setCell ⟨w.heap.size + 1, 1, none⟩ y)) := fun x y => (hBw.setCell (by simp) _).setCell (by simp) _
      clear HI HK HR HR2 HO b0 b1 hB hB0 hBw
      go_wp2_with fail
      try simp only [Exit.inBlock, Exit.then]
      refine bodyPost_ret (v := .tuple #[.string (S (enc o.2)), .agg #[.int .i64 0, .int .i64 0]]) (by simp [results, Tryd.results56, go_sem, c0, c1]) rfl ?_
      exact ⟨by rw [HR3.out]; exact ⟨_, rfl⟩, HBF.out _ _⟩
end Go.Proofs.YthdlfeejeboboaaDoor
namespace Go.Proofs.YthdlfeejeboboaaDoor
open Go.RowKit Ck
open T3.Tp (Ty enc cns met)
set_option maxRecDepth 100000
set_option linter.unusedSimpArgs false

theorem meetK_len {i : Nat} {a b : Ty} {k : Nat × Ty} (h : meetK i a k = .ok b) : (enc b).length ≤ 64 := by
  unfold meetK at h
  split at h
  · split at h
    · rename_i h2; cases h; exact h2
    · cases h
  · cases h
/-- The rule of lists. -/
def lst (i : Nat) (a : Ty) (ks : List (Nat × Ty)) : Rs Ty := match meets i a ks with | .error e => .error e | .ok t => made i (.tl t)
theorem lst_drop {i : Nat} {a : Ty} {ks : List (Nat × Ty)} {j : Nat} {k : Nat × Ty} (h : ks[j]? = some k) : lst i a (ks.drop j) = match meetK i a k with | .error e => .error e | .ok b => lst i b (ks.drop (j + 1)) := by
  unfold lst
  rw [meets_drop h]
  cases meetK i a k <;> rfl

set_option maxHeartbeats 4000000 in
theorem list_any (w : World) (cb tb n i : Nat) (kv : Value) (ks : List (Nat × Ty)) (hT : HasT w cb tb n) (hK : Kds w tb n kv ks) :
    Calls Tryd.prog 54 #[.pointer (some ⟨cb, 0, none⟩), .int .i64 (i : Int), kv] w fun e w' => Ans (lst i .tq ks) e ∧ Below w.heap.size w w' := by
  have hcb : cb < w.heap.size := World.block_lt_of_cell? _ _ hT
  obtain ⟨ka, rfl⟩ := hK.form
  have hlen := hK.len
  have HK : Aside (∀ w', Below w.heap.size w w' → HasT w' cb tb n ∧ Kds w' tb n (.slice ka ks.length ks.length) ks) := fun w' hB => ⟨hT.below hcb hB, hK.below hB⟩
  clear hT hK
  obtain ⟨w0, hw0⟩ : ∃ w0, w0 = w.alloc (.cells #[.int .i64 0, .int .i64 0] 61) := ⟨_, rfl⟩
  have hB0 : Below w.heap.size w w0 := by rw [hw0]; exact (Below.refl _ _).alloc (Nat.le_refl _) _
  have hz0 : w0.heap.size = w.heap.size + 1 := by rw [hw0]; simp
  have b1 : w0.heap[w.heap.size]? = some (.cells #[.int .i64 0, .int .i64 0] 61) := by rw [hw0]; exact heap_alloc_new _ _
  have HI : Aside (∀ wr, Below w0.heap.size w0 wr → (wr.cell? ⟨w.heap.size, 0, none⟩ = some (.int .i64 0) ∧ wr.cell? ⟨w.heap.size, 1, none⟩ = some (.int .i64 0)) ∧ (∀ q, wr.frozen? ⟨w.heap.size, q, none⟩ = false) ∧ Below w.heap.size w wr) := fun wr hB => by
    have k1 := (hB.block _ (by omega)).trans b1
    exact ⟨⟨(block_cells k1).1 0, (block_cells k1).1 1⟩, (block_cells k1).2, hB0.trans (hB.mono (by omega))⟩
  clear b1 hB0
  go_enter Tryd.func54, Tryd.ntmps54
  go_wp2_with fail
  rw [← hw0]
  clear hw0
  go_loopg [8, 15] ks.length (fun g s t wr => ∃ (j : Nat) (a : Ty), j + g = ks.length ∧ s = .string (S (enc a)) ∧ t = .int .i64 (j : Int) ∧ Below w0.heap.size w0 wr ∧ (enc a).length ≤ 64 ∧ Aside (lst i .tq ks = lst i a (ks.drop j)))
  case atStart => exact ⟨0, .tq, by omega, rfl, rfl, Below.refl _ _, by decide, rfl⟩
  case round =>
    obtain ⟨j, a, hjg, rfl, rfl, hB, ha, HR⟩ := hrel
    obtain ⟨⟨c0, c1⟩, z1, hBw⟩ := HI.out wr hB
    by_cases hj : j < ks.length
    · have hj' : (j : Int) < (ks.length : Int) := by omega
      obtain ⟨k, hk⟩ : ∃ k, ks[j]? = some k := ⟨_, List.getElem?_eq_getElem hj⟩
      obtain ⟨hT1, hK1⟩ := HK.out wr hBw
      obtain ⟨kb, h1, h2, h3, h4, h5⟩ := hK1.at' j k hk
      obtain rfl : ka = some ⟨kb, 0, none⟩ := by simpa using h1
      have HA := ckMeet_any wr cb tb n k.1 i a k.2 hT1 h3 h4 h5 ha
      have HR2 := HR.out
      rw [lst_drop hk] at HR2
      clear HI HK h1 hT1 hK1 HR h4
      cases hm : meetK i a (k.1, k.2) with
      | ok b =>
        have hm' : meetK i a k = .ok b := hm
        rw [hm] at HA
        rw [hm'] at HR2
        have hb := meetK_len hm'
        have HR3 : Aside _ := HR2
        clear HR2 hm hm'
        go_wp2_with fail
        refine HA.mono ?_
        rintro e w1 ⟨⟨p, rfl⟩, hB1⟩
        have HB2 : Aside (∀ o, Below w0.heap.size w0 (w1.alloc o)) := fun o => by
          have h := hB.trans (hB1.mono (by have := hB.size; omega))
          exact h.alloc h.size _
        clear HA
        unfold rf
        go_wp2_with fail
        go_roundg (gk - 1)
        case measure => omega
        case rel => exact ⟨j + 1, b, by omega, rfl, by go_num, HB2.out _, hb, HR3⟩
      | error q =>
        have hm' : meetK i a k = .error q := hm
        rw [hm] at HA
        rw [hm'] at HR2
        have HR3 : Aside (lst i .tq ks = .error q) := HR2
        obtain ⟨q1, q2⟩ := q
        clear HR2 hm hm'
        go_wp2_with fail
        refine HA.mono ?_
        rintro e w1 ⟨⟨hq, s, rfl⟩, hB1⟩
        have hq1 : (q1 != 0) = true := by simpa using hq
        have c10 := (hB1.cell (p := ⟨w.heap.size, 0, none⟩) (World.block_lt_of_cell? _ _ c0)).trans c0
        have c11 := (hB1.cell (p := ⟨w.heap.size, 1, none⟩) (World.block_lt_of_cell? _ _ c1)).trans c1
        have HBF : Aside _ := (hBw.trans (hB1.mono (by have := hBw.size; omega)))
        have z10 : ∀ q, w1.frozen? ⟨w.heap.size, q, none⟩ = false := fun q => by
          have hlt : w.heap.size < wr.heap.size := World.block_lt_of_cell? _ _ c0
          rw [← z1 q]; unfold World.frozen?; rw [hB1.block _ hlt]
        have hlt : w.heap.size < w1.heap.size := World.block_lt_of_cell? _ _ c10
        clear HA z1 c0 c1 hB1 hBw
        unfold rf
        simp only
        go_wp2_with fail
        go_region
        all_goals
          go_wp2_with fail
          try simp only [Exit.inBlock, Exit.then]
          refine bodyPost_ret (v := .tuple #[.string ⟨#[]⟩, .agg #[.int .i64 q1, .int .i64 q2]]) (by simp [results, Tryd.results54, go_sem, c10, c11, hlt, Nat.ne_of_lt hlt]) rfl ?_
          refine ⟨by rw [HR3.out]; exact ⟨hq, _, rfl⟩, ?_⟩
          have h1 := ((HBF.out.setCell (p := ⟨w.heap.size, 0, none⟩) (by simp) (.int .i64 q1)).setCell (p := ⟨w.heap.size, 1, none⟩) (by simp) (.int .i64 q2))
          have h2 := h1.alloc h1.size (.cells #[.int .i64 q1, .int .i64 q2] 61)
          exact ⟨h2.os, h2.tape, h2.output, h2.size, h2.block⟩
    · have hj' : ¬ (j : Int) < (ks.length : Int) := by omega
      have HR2 := HR.out
      rw [List.drop_eq_nil_of_le (by omega)] at HR2
      have HR3 : Aside (lst i .tq ks = made i (.tl a)) := HR2
      have HM := made_any (.tl a) i (.slice (some ⟨wr.heap.size, 0, none⟩) 1 1) (wr.alloc (.cells #[.string (S (enc a))] 9)) (by intro u hu; simp [T3.Tp.kids] at hu; subst hu; exact ha) (T3.texts1e rfl rfl) (by simp [T3.Tp.kids])
      have HM' : Calls Tryd.prog 53 #[.int .i64 (i : Int), .int .u8 108, .slice (some ⟨wr.heap.size, 0, none⟩) 1 1] (wr.alloc (.cells #[.string (S (enc a))] 9)) fun e w' => Ans (made i (.tl a)) e ∧ Below (wr.alloc (.cells #[.string (S (enc a))] 9)).heap.size (wr.alloc (.cells #[.string (S (enc a))] 9)) w' := HM
      have HFin : Aside (∀ w1, Below (wr.alloc (.cells #[.string (S (enc a))] 9)).heap.size (wr.alloc (.cells #[.string (S (enc a))] 9)) w1 → (w1.cell? ⟨w.heap.size, 0, none⟩ = some (.int .i64 0) ∧ w1.cell? ⟨w.heap.size, 1, none⟩ = some (.int .i64 0)) ∧ (∀ q, w1.frozen? ⟨w.heap.size, q, none⟩ = false) ∧ ∀ x y, Below w.heap.size w ((w1.setCell ⟨w.heap.size, 0, none⟩ x).setCell ⟨w.heap.size, 1, none⟩ y)) := fun w1 h => by
        have hb1 : Below w0.heap.size w0 w1 := (hB.alloc hB.size _).trans (h.mono (by have := hB.size; simp; omega))
        obtain ⟨d1, d2, d3⟩ := HI.out w1 hb1
        exact ⟨d1, d2, fun x y => (d3.setCell (by simp) _).setCell (by simp) _⟩
      clear HI HK HR HR2 hB hBw HM
      generalize S (enc a) = sa at *
      cases hm : made i (.tl a) with
      | ok b =>
        rw [hm] at HM' HR3
        go_wp2_with fail
        refine HM'.mono ?_
        rintro e w1 ⟨⟨p, rfl⟩, hB1⟩
        obtain ⟨⟨d0, d1⟩, d2, d3⟩ := HFin.out w1 hB1
        have D3 : Aside _ := d3
        clear HM' HFin hB1 d3 c0 c1 z1
        unfold rf
        go_wp2_with fail
        try simp only [Exit.inBlock, Exit.then]
        refine bodyPost_ret (v := .tuple #[.string (S (enc b)), .agg #[.int .i64 0, .int .i64 p]]) (by simp [results, Tryd.results54, go_sem, d0, d1]) rfl ?_
        exact ⟨by rw [HR3.out]; exact ⟨_, rfl⟩, D3.out _ _⟩
      | error q =>
        obtain ⟨q1, q2⟩ := q
        rw [hm] at HM' HR3
        go_wp2_with fail
        refine HM'.mono ?_
        rintro e w1 ⟨⟨hq, s, rfl⟩, hB1⟩
        obtain ⟨⟨d0, d1⟩, d2, d3⟩ := HFin.out w1 hB1
        have D3 : Aside _ := d3
        clear HM' HFin hB1 d3 c0 c1 z1
        unfold rf
        simp only
        go_wp2_with fail
        try simp only [Exit.inBlock, Exit.then]
        refine bodyPost_ret (v := .tuple #[.string s, .agg #[.int .i64 q1, .int .i64 q2]]) (by simp [results, Tryd.results54, go_sem, d0, d1]) rfl ?_
        exact ⟨by rw [HR3.out]; exact ⟨hq, _, rfl⟩, D3.out _ _⟩
end Go.Proofs.YthdlfeejeboboaaDoor
