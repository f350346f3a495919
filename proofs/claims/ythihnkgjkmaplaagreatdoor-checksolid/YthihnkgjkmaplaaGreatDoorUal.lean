/- Package check: the memory that a check may change; scopes; written, with. Package check: with; ask, meet, made. The document's checker: its block; no, fits. Package check: made, meet. -/
import Derived.Test.YthihnkgjkmaplaaGreatDoorUah
import Derived.Test.YthihnkgjkmaplaaGreatDoorUae
import Derived.Test.YthihnkgjkmaplaaGreatDoorUak
import Derived.Test.YthihnkgjkmaplaaGreatDoorUaf
namespace Go.Proofs.YthihnkgjkmaplaaGreatDoor
open Go.RowKit Ck
open T3.Tp (Ty enc cns met)
set_option maxRecDepth 100000
set_option linter.unusedSimpArgs false

/-- Two blocks aside, all that was there is there as it was. -/
structure Two (a b : Nat) (w w' : World) : Prop where
  os : w'.os = w.os
  tape : w'.tape = w.tape
  output : w'.output = w.output
  size : w.heap.size ≤ w'.heap.size
  block : ∀ k, k < w.heap.size → k ≠ a → k ≠ b → w'.heap[k]? = w.heap[k]?
theorem Two.refl (a b : Nat) (w : World) : Two a b w w := ⟨rfl, rfl, rfl, Nat.le_refl _, fun _ _ _ _ => rfl⟩
theorem Two.trans {a b : Nat} {w w1 w2 : World} (h : Two a b w w1) (k : Two a b w1 w2) : Two a b w w2 :=
  ⟨k.os.trans h.os, k.tape.trans h.tape, k.output.trans h.output, Nat.le_trans h.size k.size, fun j hj ha hb => (k.block j (Nat.lt_of_lt_of_le hj h.size) ha hb).trans (h.block j hj ha hb)⟩
theorem below_two {w w' : World} (h : Below w.heap.size w w') (a b : Nat) : Two a b w w' := ⟨h.os, h.tape, h.output, h.size, fun j hj _ _ => h.block j hj⟩
theorem Two.below {a b : Nat} {w w1 w2 : World} (h : Two a b w w1) (k : Below w1.heap.size w1 w2) : Two a b w w2 := h.trans (below_two k a b)
theorem Two.cell {a b : Nat} {w w' : World} (h : Two a b w w') {p : Addr} (hp : p.block < w.heap.size) (ha : p.block ≠ a) (hb : p.block ≠ b) : w'.cell? p = w.cell? p := World.cell?_of_block (h.block _ hp ha hb)
theorem Two.setA {a b : Nat} {w w' : World} (h : Two a b w w') (o : Nat) (u : Value) : Two a b w (w'.setCell ⟨a, o, none⟩ u) :=
  ⟨h.os, h.tape, h.output, by simpa [World.setCell] using h.size, fun k hk ha hb => by rw [Below.heap_setCell _ _ _ _ ha]; exact h.block k hk ha hb⟩
theorem Two.setB {a b : Nat} {w w' : World} (h : Two a b w w') (o : Nat) (u : Value) : Two a b w (w'.setCell ⟨b, o, none⟩ u) :=
  ⟨h.os, h.tape, h.output, by simpa [World.setCell] using h.size, fun k hk ha hb => by rw [Below.heap_setCell _ _ _ _ hb]; exact h.block k hk ha hb⟩

/-- What a look for a name tells. -/
def lookS (env : Env) (n : ByteArray) : ByteArray := match Ck.look env n.data.toList with | some t => S (enc t) | none => ⟨#[]⟩
def lookB (env : Env) (n : ByteArray) : Bool := (Ck.look env n.data.toList).isSome
/-- A scope that tells an environment, as long as no more than two blocks change. -/
def Scope (a b : Nat) (w : World) (v : Value) (env : Env) : Prop :=
  ∃ F caps, v = .func (.func F) #[] caps ∧ (∀ args w, (callFunc F args).run Tryz.prog w = .ok (.enter F args) w) ∧
    ∀ w', Two a b w w' → ∀ n : ByteArray, n.size ≤ maxLen → Calls Tryz.prog F (#[.string n] ++ caps) w' fun e w2 => e = .returned (.tuple #[.string (lookS env n), .bool (lookB env n)]) ∧ w2 = w'
theorem Scope.next {a b : Nat} {w w' : World} {v : Value} {env : Env} (h : Scope a b w v env) (k : Two a b w w') : Scope a b w' v env := by
  obtain ⟨F, caps, h1, h2, h3⟩ := h
  exact ⟨F, caps, h1, h2, fun w2 hw => h3 w2 (k.trans hw)⟩

theorem written_any (s : ByteArray) (w : World) : Calls Tryz.prog 73 #[.string s] w fun e w' => e = .returned (.string (if s.size = 0 then ⟨#[63]⟩ else s)) ∧ w' = w := by
  by_cases h : s = ⟨#[]⟩
  · subst h
    go_enter Tryz.func73, Tryz.ntmps73
    go_wp2_with fail
    go_ret
    exact ⟨rfl, rfl⟩
  · have hs : s.size ≠ 0 := fun e => h (by obtain ⟨⟨l⟩⟩ := s; simp [ByteArray.size] at e; simp [e])
    have hb : (s.toList == []) = false := by have := (Lib.bytes_beq_false_iff s ⟨#[]⟩).2 h; simpa using this
    go_enter Tryz.func73, Tryz.ntmps73
    go_wp2_with fail
    go_ret
    exact ⟨rfl, rfl⟩
end Go.Proofs.YthihnkgjkmaplaaGreatDoor
namespace Go.Proofs.YthihnkgjkmaplaaGreatDoor
open Go.RowKit Ck
open T3.Tp (Ty enc cns met)
set_option maxRecDepth 100000
set_option linter.unusedSimpArgs false

theorem look_cons (n : ByteArray) (t : Ty) (env : Env) (m : ByteArray) : lookS ((n.data.toList, t) :: env) m = (if m = n then S (enc t) else lookS env m) ∧ lookB ((n.data.toList, t) :: env) m = (if m = n then true else lookB env m) := by
  have hl : Ck.look ((n.data.toList, t) :: env) m.data.toList = if m.data.toList = n.data.toList then some t else Ck.look env m.data.toList := rfl
  unfold lookS lookB
  rw [hl]
  by_cases h : m = n
  · subst h; simp
  · have : ¬ m.data.toList = n.data.toList := fun e => h (by cases m; cases n; simpa using e)
    simp [h, this]
theorem enters_with1 : ∀ args w, (callFunc 102 args).run Tryz.prog w = .ok (.enter 102 args) w := enters_of Tryz.func102 (by kernel_rfl) rfl

set_option maxHeartbeats 1000000 in
theorem with1_any (w : World) (g1 g2 g3 F : Nat) (caps : Array Value) (n m : ByteArray) (t : Ty) (env : Env)
    (hE : ∀ args w, (callFunc F args).run Tryz.prog w = .ok (.enter F args) w)
    (h1 : w.cell? ⟨g1, 0, none⟩ = some (.string n)) (h2 : w.cell? ⟨g2, 0, none⟩ = some (.string (S (enc t)))) (h3 : w.cell? ⟨g3, 0, none⟩ = some (.func (.func F) #[] caps))
    (hC : Calls Tryz.prog F (#[.string m] ++ caps) w fun e w2 => e = .returned (.tuple #[.string (lookS env m), .bool (lookB env m)]) ∧ w2 = w) :
    Calls Tryz.prog 102 #[.string m, .pointer (some ⟨g1, 0, none⟩), .pointer (some ⟨g2, 0, none⟩), .pointer (some ⟨g3, 0, none⟩)] w fun e w2 => e = .returned (.tuple #[.string (lookS ((n.data.toList, t) :: env) m), .bool (lookB ((n.data.toList, t) :: env) m)]) ∧ w2 = w := by
  rw [(look_cons n t env m).1, (look_cons n t env m).2]
  generalize S (enc t) = st at *
  by_cases h : m = n
  · subst h
    rw [if_pos rfl, if_pos rfl]
    have hb : (m.toList == m.toList) = true := by simp
    clear hC
    go_enter Tryz.func102, Tryz.ntmps102
    go_wp2_with fail
    go_ret2
    exact ⟨rfl, rfl⟩
  · rw [if_neg h, if_neg h]
    have hb : (m.toList == n.toList) = false := (Lib.bytes_beq_false_iff m n).2 h
    go_enter Tryz.func102, Tryz.ntmps102
    go_wp2_with (refine hC.mono ?_; rintro e w2 ⟨rfl, rfl⟩)
    go_ret2
    exact ⟨rfl, rfl⟩

set_option maxHeartbeats 1000000 in
theorem with_any (a b : Nat) (w : World) (v : Value) (env : Env) (n : ByteArray) (t : Ty) (hS : Scope a b w v env) (ha : a < w.heap.size) (hb : b < w.heap.size) :
    Calls Tryz.prog 74 #[v, .string n, .string (S (enc t))] w fun e w' => ∃ v', e = .returned v' ∧ Scope a b w' v' ((n.data.toList, t) :: env) ∧ Below w.heap.size w w' := by
  obtain ⟨F, caps, rfl, hE, hC⟩ := hS
  have hB : Below w.heap.size w (((w.alloc (.cells #[.func (.func F) #[] caps] 68)).alloc (.cells #[.string n] 9)).alloc (.cells #[.string (S (enc t))] 9)) := (((Below.refl _ _).alloc (Nat.le_refl _) _).alloc (by simp) _).alloc (by simp; omega) _
  have k0 : (((w.alloc (.cells #[.func (.func F) #[] caps] 68)).alloc (.cells #[.string n] 9)).alloc (.cells #[.string (S (enc t))] 9)).cell? ⟨w.heap.size, 0, none⟩ = some (.func (.func F) #[] caps) := T3.cell_old rfl (by simp; omega) (T3.cell_old rfl (by simp) (T3.cell_new rfl rfl))
  have k1 : (((w.alloc (.cells #[.func (.func F) #[] caps] 68)).alloc (.cells #[.string n] 9)).alloc (.cells #[.string (S (enc t))] 9)).cell? ⟨w.heap.size + 1, 0, none⟩ = some (.string n) := T3.cell_old rfl (by simp) (T3.cell_new rfl (by simp))
  have k2 : (((w.alloc (.cells #[.func (.func F) #[] caps] 68)).alloc (.cells #[.string n] 9)).alloc (.cells #[.string (S (enc t))] 9)).cell? ⟨w.heap.size + 2, 0, none⟩ = some (.string (S (enc t))) := T3.cell_new rfl (by simp)
  have hz : (((w.alloc (.cells #[.func (.func F) #[] caps] 68)).alloc (.cells #[.string n] 9)).alloc (.cells #[.string (S (enc t))] 9)).heap.size = w.heap.size + 3 := by simp
  have HS : Aside (∀ W, W = (((w.alloc (.cells #[.func (.func F) #[] caps] 68)).alloc (.cells #[.string n] 9)).alloc (.cells #[.string (S (enc t))] 9)) → Below w.heap.size w W ∧ Scope a b W (.func (.func 102) #[] #[.pointer (some ⟨w.heap.size + 1, 0, none⟩), .pointer (some ⟨w.heap.size + 2, 0, none⟩), .pointer (some ⟨w.heap.size, 0, none⟩)]) ((n.data.toList, t) :: env)) := by
    intro W hW
    rw [← hW] at hB k0 k1 k2 hz
    refine ⟨hB, _, _, rfl, enters_with1, fun w' hw m hm => ?_⟩
    exact with1_any w' _ _ _ F caps n m t env hE ((hw.cell (by simp; omega) (by simp; omega) (by simp; omega)).trans k1) ((hw.cell (by simp; omega) (by simp; omega) (by simp; omega)).trans k2) ((hw.cell (by simp; omega) (by simp; omega) (by simp; omega)).trans k0) (hC w' ((below_two hB a b).trans hw) m hm)
  clear hB k0 k1 k2 hz hC hE
  generalize S (enc t) = st at *
  go_enter Tryz.func74, Tryz.ntmps74
  go_wp2_with fail
  go_ret
  have := HS.out _ rfl
  exact ⟨_, rfl, this.2, this.1⟩

/-- A refusal. -/
def rf (c p : Int) : Value := .agg #[.int .i64 c, .int .i64 p]
/-- The checker's block holds the row of types. -/
def HasT (w : World) (cb tb n : Nat) : Prop := w.cell? ⟨cb, 1, none⟩ = some (.slice (some ⟨tb, 0, none⟩) n n)
theorem HasT.below {w w' : World} {cb tb n : Nat} (h : HasT w cb tb n) (hc : cb < w.heap.size) (hB : Below w.heap.size w w') : HasT w' cb tb n := (hB.cell (p := ⟨cb, 1, none⟩) hc).trans h

set_option maxHeartbeats 1000000 in
theorem ask_any (w : World) (cb tb n k : Nat) (t u : Ty) (c p : Int) (hT : HasT w cb tb n) (hk : k < n) (ht : w.cell? ⟨tb, k, none⟩ = some (.string (S (enc t)))) (h1 : (enc t).length ≤ 64) (h2 : (enc u).length ≤ 64) :
    Calls Tryz.prog 76 #[.pointer (some ⟨cb, 0, none⟩), .int .i64 (k : Int), .string (S (enc u)), rf c p] w fun e w' => e = .returned (if cns t u then rf 0 0 else rf c p) ∧ Below w.heap.size w w' := by
  have hC : ∀ w, Calls Tryz.prog 103 #[.string (S (enc t)), .string (S (enc u))] w fun e w' => e = .returned (.bool (cns t u)) ∧ Below w.heap.size w w' := T3.consistent_yes t u h1 h2
  have hcb : cb < w.heap.size := World.block_lt_of_cell? _ _ hT
  have htb : tb < w.heap.size := World.block_lt_of_cell? _ _ ht
  unfold rf
  have hT' := hT
  unfold HasT at hT'
  have hk' : (k : Int) < (n : Int) := by omega
  have hk0 : (0 : Int) ≤ (k : Int) := by omega
  have e1 : ∀ o1 o2, ((w.alloc o1).alloc o2).cell? ⟨cb, 1, none⟩ = some (.slice (some ⟨tb, 0, none⟩) n n) := fun o1 o2 => ((((Below.refl _ _).alloc (Nat.le_refl _) o1).alloc (by simp) o2 : Below w.heap.size w _).cell hcb).trans hT'
  have e2 : ∀ o1 o2, ((w.alloc o1).alloc o2).cell? ⟨tb, k, none⟩ = some (.string (S (enc t))) := fun o1 o2 => ((((Below.refl _ _).alloc (Nat.le_refl _) o1).alloc (by simp) o2 : Below w.heap.size w _).cell htb).trans ht
  have HB : Aside (∀ o1 o2 W, Below ((w.alloc o1).alloc o2).heap.size ((w.alloc o1).alloc o2) W → Below w.heap.size w W) := fun o1 o2 W h => (((Below.refl _ _).alloc (Nat.le_refl _) o1).alloc (by simp) o2).trans (h.mono (by simp; omega))
  clear hT ht hT'
  show Calls _ _ _ _ fun e w' => e = .returned (if cns t u = true then Value.agg #[.int .i64 0, .int .i64 0] else .agg #[.int .i64 c, .int .i64 p]) ∧ _
  generalize S (T3.Tp.enc t) = st at *
  generalize S (T3.Tp.enc u) = su at *
  have f1 : ∀ W, Below ((w.alloc (.cells #[.int .i64 c, .int .i64 p] 76)).alloc (.cells #[.int .i64 0, .int .i64 0] 76)).heap.size ((w.alloc (.cells #[.int .i64 c, .int .i64 p] 76)).alloc (.cells #[.int .i64 0, .int .i64 0] 76)) W →
      W.heap[w.heap.size]? = some (.cells #[.int .i64 c, .int .i64 p] 76) ∧ W.heap[w.heap.size + 1]? = some (.cells #[.int .i64 0, .int .i64 0] 76) := fun W hW =>
    ⟨(hW.block _ (by simp; omega)).trans ((Below.heap_alloc _ _ _ (by simp)).trans (heap_alloc_new _ _)), (hW.block _ (by simp)).trans (by have := heap_alloc_new (w.alloc (.cells #[.int .i64 c, .int .i64 p] 76)) (.cells #[.int .i64 0, .int .i64 0] 76); simpa using this)⟩
  have HF : Aside _ := f1
  clear f1
  cases hq : T3.Tp.cns t u with
  | true =>
    rw [hq] at hC
    go_enter Tryz.func76, Tryz.ntmps76
    go_wp2_with fail
    refine (hC _).mono ?_
    rintro e w1 ⟨rfl, hB1⟩
    obtain ⟨k0, k1⟩ := HF.out w1 hB1
    obtain ⟨c1, z1⟩ := block_cells k1
    have c00 : w1.cell? ⟨w.heap.size, 0, none⟩ = some (.int .i64 c) := (block_cells k0).1 0
    have c01 : w1.cell? ⟨w.heap.size, 1, none⟩ = some (.int .i64 p) := (block_cells k0).1 1
    have c10 : w1.cell? ⟨w.heap.size + 1, 0, none⟩ = some (.int .i64 0) := c1 0
    have c11 : w1.cell? ⟨w.heap.size + 1, 1, none⟩ = some (.int .i64 0) := c1 1
    have HB1 := HB.out _ _ w1 hB1
    have HB2 : Aside (∀ x y, Below w.heap.size w ((w1.setCell ⟨w.heap.size + 1, 0, none⟩ x).setCell ⟨w.heap.size + 1, 1, none⟩ y)) := fun x y => (HB1.setCell (by simp) _).setCell (by simp) _
    clear hC hB1 HB HB1 k0 k1 HF e1 e2 c1
    go_wp2_with fail
    try simp only [Exit.inBlock, Exit.then]
    refine bodyPost_ret (v := .agg #[.int .i64 0, .int .i64 0]) (by simp [results, Tryz.results76, go_sem, c10, c11]) rfl ?_
    exact ⟨rfl, HB2.out _ _⟩
  | false =>
    rw [hq] at hC
    go_enter Tryz.func76, Tryz.ntmps76
    go_wp2_with fail
    refine (hC _).mono ?_
    rintro e w1 ⟨rfl, hB1⟩
    obtain ⟨k0, k1⟩ := HF.out w1 hB1
    obtain ⟨c1, z1⟩ := block_cells k1
    have c00 : w1.cell? ⟨w.heap.size, 0, none⟩ = some (.int .i64 c) := (block_cells k0).1 0
    have c01 : w1.cell? ⟨w.heap.size, 1, none⟩ = some (.int .i64 p) := (block_cells k0).1 1
    have c10 : w1.cell? ⟨w.heap.size + 1, 0, none⟩ = some (.int .i64 0) := c1 0
    have c11 : w1.cell? ⟨w.heap.size + 1, 1, none⟩ = some (.int .i64 0) := c1 1
    have HB1 := HB.out _ _ w1 hB1
    have HB2 : Aside (∀ x y, Below w.heap.size w ((w1.setCell ⟨w.heap.size + 1, 0, none⟩ x).setCell ⟨w.heap.size + 1, 1, none⟩ y)) := fun x y => (HB1.setCell (by simp) _).setCell (by simp) _
    clear hC hB1 HB HB1 k0 k1 HF e1 e2 c1
    go_wp2_with fail
    try simp only [Exit.inBlock, Exit.then]
    refine bodyPost_ret (v := .agg #[.int .i64 c, .int .i64 p]) (by simp [results, Tryz.results76, go_sem, c10, c11]) rfl ?_
    exact ⟨rfl, HB2.out _ _⟩
end Go.Proofs.YthihnkgjkmaplaaGreatDoor
namespace Go.Proofs.YthihnkgjkmaplaaGreatDoor
open Go.RowKit Ck
open T3.Tp (Ty enc cns met)
set_option maxRecDepth 100000
set_option linter.unusedSimpArgs false

/-- The checker's block: the types' row, the first refusal (code and place), how consistent is read. -/
structure KC (w : World) (cb tb n : Nat) (nV : Value) (e a : Int) (sm : Bool) : Prop where
  ty : HasT w cb tb n
  er : w.cell? ⟨cb, 2, none⟩ = some (.int .i64 e)
  pl : w.cell? ⟨cb, 3, none⟩ = some (.int .i64 a)
  sa : w.cell? ⟨cb, 4, none⟩ = some (.bool sm)
  fz : ∀ q, w.frozen? ⟨cb, q, none⟩ = false
  l0 : w.cell? ⟨cb, 0, none⟩ = some nV
theorem KC.lt {w : World} {cb tb n : Nat} {nV : Value} {e a : Int} {sm : Bool} (h : KC w cb tb n nV e a sm) : cb < w.heap.size := World.block_lt_of_cell? _ _ h.ty
theorem KC.same {w w' : World} {cb tb n : Nat} {nV : Value} {e a : Int} {sm : Bool} (h : KC w cb tb n nV e a sm) (k : w'.heap[cb]? = w.heap[cb]?) : KC w' cb tb n nV e a sm :=
  ⟨(World.cell?_of_block (a := ⟨cb, 1, none⟩) k).trans h.ty, (World.cell?_of_block (a := ⟨cb, 2, none⟩) k).trans h.er, (World.cell?_of_block (a := ⟨cb, 3, none⟩) k).trans h.pl, (World.cell?_of_block (a := ⟨cb, 4, none⟩) k).trans h.sa, fun q => by rw [← h.fz q]; unfold World.frozen?; rw [k], (World.cell?_of_block (a := ⟨cb, 0, none⟩) k).trans h.l0⟩
theorem KC.two {w w' : World} {cb tb n x y : Nat} {nV : Value} {e a : Int} {sm : Bool} (h : KC w cb tb n nV e a sm) (k : Two x y w w') (hx : cb ≠ x) (hy : cb ≠ y) : KC w' cb tb n nV e a sm := h.same (k.block _ h.lt hx hy)
theorem KC.below {w w' : World} {cb tb n : Nat} {nV : Value} {e a : Int} {sm : Bool} (h : KC w cb tb n nV e a sm) (k : Below w.heap.size w w') : KC w' cb tb n nV e a sm := h.same (k.block _ h.lt)
theorem KC.refuse {w : World} {cb tb n : Nat} {nV : Value} {e0 a0 : Int} {sm : Bool} (h : KC w cb tb n nV e0 a0 sm) (e a : Int) : KC ((w.setCell ⟨cb, 2, none⟩ (.int .i64 e)).setCell ⟨cb, 3, none⟩ (.int .i64 a)) cb tb n nV e a sm := by
  have o2 : ∀ q, q ≠ 2 → (w.setCell ⟨cb, 2, none⟩ (.int .i64 e)).cell? ⟨cb, q, none⟩ = w.cell? ⟨cb, q, none⟩ := fun q hq => World.cell?_setCell_other (w := w) (a := ⟨cb, 2, none⟩) (b := ⟨cb, q, none⟩) (v := .int .i64 e) (fun e => hq (by cases e; rfl))
  have s2 : (w.setCell ⟨cb, 2, none⟩ (.int .i64 e)).cell? ⟨cb, 2, none⟩ = some (.int .i64 e) := World.cell?_setCell_same (w := w) (a := ⟨cb, 2, none⟩) (v := .int .i64 e) h.er
  have o3 : ∀ q, q ≠ 3 → ((w.setCell ⟨cb, 2, none⟩ (.int .i64 e)).setCell ⟨cb, 3, none⟩ (.int .i64 a)).cell? ⟨cb, q, none⟩ = (w.setCell ⟨cb, 2, none⟩ (.int .i64 e)).cell? ⟨cb, q, none⟩ := fun q hq => World.cell?_setCell_other (w := w.setCell ⟨cb, 2, none⟩ (.int .i64 e)) (a := ⟨cb, 3, none⟩) (b := ⟨cb, q, none⟩) (v := .int .i64 a) (fun e => hq (by cases e; rfl))
  have s3 : ((w.setCell ⟨cb, 2, none⟩ (.int .i64 e)).setCell ⟨cb, 3, none⟩ (.int .i64 a)).cell? ⟨cb, 3, none⟩ = some (.int .i64 a) := World.cell?_setCell_same (w := w.setCell ⟨cb, 2, none⟩ (.int .i64 e)) (a := ⟨cb, 3, none⟩) (v := .int .i64 a) ((o2 3 (by decide)).trans h.pl)
  exact ⟨((o3 1 (by decide)).trans (o2 1 (by decide))).trans h.ty, (o3 2 (by decide)).trans s2, s3, ((o3 4 (by decide)).trans (o2 4 (by decide))).trans h.sa, fun q => by rw [← h.fz q]; simp [go_sem], ((o3 0 (by decide)).trans (o2 0 (by decide))).trans h.l0⟩

/-- Consistent, or the same. -/
def cn (sm : Bool) (a b : Ty) : Bool := (!sm || decide (a = b)) && cns a b

theorem enc_inj {a b : Ty} (h : enc a = enc b) : a = b := by
  have := congrArg tyOf h
  rwa [tyOf_enc, tyOf_enc] at this
theorem S_eq (a b : Ty) : ((S (enc a)).toList == (S (enc b)).toList) = decide (a = b) := by
  have h1 : (S (enc a)).toList = enc a := T3.toList_S _
  have h2 : (S (enc b)).toList = enc b := T3.toList_S _
  rw [h1, h2]
  by_cases h : a = b
  · subst h; simp
  · have : enc a ≠ enc b := fun e => h (enc_inj e)
    simp [h, this]

theorem kno_set (w : World) (cb tb n : Nat) {nV : Value} (a0 : Int) (sm : Bool) (e a : Int) (h : KC w cb tb n nV 0 a0 sm) :
    Calls Tryz.prog 90 #[.pointer (some ⟨cb, 0, none⟩), .int .i64 e, .int .i64 a] w fun en w' => en = .returned (.tuple #[]) ∧ KC w' cb tb n nV e a sm ∧ Two cb cb w w' := by
  have HR : Aside (KC ((w.setCell ⟨cb, 2, none⟩ (.int .i64 e)).setCell ⟨cb, 3, none⟩ (.int .i64 a)) cb tb n nV e a sm) := h.refuse e a
  have hE := h.er
  have hP := h.pl
  have f2 := h.fz 2
  have f3 := h.fz 3
  clear h
  go_enter Tryz.func90, Tryz.ntmps90
  go_wp2_with fail
  go_end0
  exact ⟨rfl, HR.out, ((Two.refl cb cb w).setA 2 _).setA 3 _⟩
theorem kno_old (w : World) (cb tb n : Nat) {nV : Value} (e0 a0 : Int) (he : e0 ≠ 0) (sm : Bool) (e a : Int) (h : KC w cb tb n nV e0 a0 sm) :
    Calls Tryz.prog 90 #[.pointer (some ⟨cb, 0, none⟩), .int .i64 e, .int .i64 a] w fun en w' => en = .returned (.tuple #[]) ∧ w' = w := by
  have hE := h.er
  have he' : (e0 == 0) = false := by simpa using he
  clear h
  go_enter Tryz.func90, Tryz.ntmps90
  go_wp2_with fail
  go_end0
  exact ⟨rfl, rfl⟩

theorem kfits_old (w : World) (cb tb n : Nat) {nV : Value} (e0 a0 : Int) (he : e0 ≠ 0) (sm : Bool) (s t : ByteArray) (e a : Int) (h : KC w cb tb n nV e0 a0 sm) :
    Calls Tryz.prog 114 #[.pointer (some ⟨cb, 0, none⟩), .string s, .string t, .int .i64 e, .int .i64 a] w fun en w' => en = .returned (.tuple #[]) ∧ w' = w := by
  have hE := h.er
  have he' : (e0 != 0) = true := by simpa using he
  clear h
  go_enter Tryz.func114, Tryz.ntmps114
  go_wp2_with fail
  refine bodyPost_ret (results_none rfl _ _ _) rfl ?_
  exact ⟨rfl, rfl⟩

set_option maxHeartbeats 2000000 in
theorem kfits_any (w : World) (cb tb n : Nat) {nV : Value} (a0 : Int) (sm : Bool) (s t : Ty) (hs : (enc s).length ≤ 64) (ht : (enc t).length ≤ 64) (e a : Int) (h : KC w cb tb n nV 0 a0 sm) :
    Calls Tryz.prog 114 #[.pointer (some ⟨cb, 0, none⟩), .string (S (enc s)), .string (S (enc t)), .int .i64 e, .int .i64 a] w fun en w' => en = .returned (.tuple #[]) ∧ KC w' cb tb n nV (if cn sm s t then 0 else e) (if cn sm s t then a0 else a) sm ∧ Two cb cb w w' := by
  have hC : ∀ w, Calls Tryz.prog 134 #[.string (S (enc s)), .string (S (enc t))] w fun e w' => e = .returned (.bool (cns s t)) ∧ Below w.heap.size w w' := fun w => T3.kcons_yes 64 s t w hs hs ht
  have hq := S_eq s t
  have hE := h.er
  have hS := h.sa
  have hno : ∀ w', Below w.heap.size w w' → Calls Tryz.prog 90 #[.pointer (some ⟨cb, 0, none⟩), .int .i64 e, .int .i64 a] w' fun en w2 => en = .returned (.tuple #[]) ∧ KC w2 cb tb n nV e a sm ∧ Two cb cb w w2 := fun w' hB => (kno_set w' cb tb n a0 sm e a (h.below hB)).mono fun en w2 ⟨h1, h2, h3⟩ => ⟨h1, h2, (below_two hB cb cb).trans h3⟩
  have HO : Aside (∀ w', Below w.heap.size w w' → KC w' cb tb n nV 0 a0 sm ∧ Two cb cb w w') := fun w' hB => ⟨h.below hB, below_two hB cb cb⟩
  have hn0 := hno w (Below.refl _ _)
  clear h
  unfold cn
  generalize S (T3.Tp.enc s) = ss at *
  generalize S (T3.Tp.enc t) = st at *
  generalize decide (s = t) = d at *
  generalize cns s t = c at *
  cases sm <;> cases d <;> cases c
  all_goals
    simp only [Bool.not_false, Bool.not_true, Bool.true_or, Bool.false_or, Bool.and_true, Bool.and_false, Bool.true_and, Bool.false_and, if_true, if_false, Bool.false_eq_true]
    go_enter Tryz.func114, Tryz.ntmps114
    go_wp2_with (first | (go_at_call 134; refine (hC _).mono ?_; rintro e w1 ⟨rfl, hB1⟩) | (go_at_call 90; refine Calls.mono (by first | exact hno _ hB1 | exact hn0) ?_; rintro e w2 ⟨rfl, hK2, hT2⟩))
    go_end0
    first
      | exact ⟨rfl, hK2, hT2⟩
      | exact ⟨rfl, (HO.out _ hB1).1, (HO.out _ hB1).2⟩
end Go.Proofs.YthihnkgjkmaplaaGreatDoor
namespace Go.Proofs.YthihnkgjkmaplaaGreatDoor
open Go.RowKit Ck
open T3.Tp (Ty enc cns met)
set_option maxRecDepth 100000
set_option linter.unusedSimpArgs false

/-- What a rule answers: a type, or a refusal. -/
def Ans (r : Rs Ty) (e : Ending) : Prop := match r with
  | .ok t => ∃ p : Int, e = .returned (.tuple #[.string (S (enc t)), rf 0 p])
  | .error q => q.1 ≠ 0 ∧ ∃ s, e = .returned (.tuple #[.string s, rf q.1 q.2])

theorem mkF_of (t : Ty) (h : ∀ u ∈ T3.Tp.kids t, (enc u).length ≤ 64) : T3.Tp.mkF (T3.Tp.hd t) ((T3.Tp.kids t).map enc) = if (enc t).length ≤ 64 then (0, enc t) else (21, []) := by
  have h1 : T3.Tp.ar (T3.Tp.hd t).toNat = ((T3.Tp.kids t).map enc).length := by rw [T3.Tp.ar_hd, List.length_map]
  have h2 : T3.Tp.firstBad ((T3.Tp.kids t).map enc) = 0 := T3.Tp.firstBad_encs _ h
  have h3 : enc t = T3.Tp.hd t :: ((T3.Tp.kids t).map enc).flatten := T3.Tp.enc_eq t
  have h4 : (enc t).length = 1 + ((T3.Tp.kids t).map enc).flatten.length := by rw [h3]; simp [Nat.add_comm]
  by_cases hl : (enc t).length ≤ 64
  · rw [if_pos hl, T3.Tp.mk_ok h1 h2 (by omega), ← h3]
  · rw [if_neg hl, T3.Tp.mk_large h1 h2 (by omega)]

set_option maxHeartbeats 1000000 in
theorem made_any (t : Ty) (i : Nat) (v : Value) (w : World) (h : ∀ u ∈ T3.Tp.kids t, (enc u).length ≤ 64) (hv : T3.IsTexts w v ((T3.Tp.kids t).map enc)) (hk : (T3.Tp.kids t).length ≤ 2) :
    Calls Tryz.prog 78 #[.int .i64 (i : Int), .int .u8 ((T3.Tp.hd t).toNat : Int), v] w fun e w' => Ans (made i t) e ∧ Below w.heap.size w w' := by
  have hM : ∀ w' : World, Below w.heap.size w w' → Calls Tryz.prog 72 #[.int .u8 ((T3.Tp.hd t).toNat : Int), v] w' fun e w2 => e = .returned (.tuple #[.string (S (T3.Tp.mkF (T3.Tp.hd t) ((T3.Tp.kids t).map enc)).2), .int .i64 (T3.Tp.mkF (T3.Tp.hd t) ((T3.Tp.kids t).map enc)).1]) ∧ Below w'.heap.size w' w2 :=
    fun w' hB => T3.make_any (T3.Tp.hd t) v _ w' (hv.below hB) (by rw [List.length_map]; omega)
  rw [mkF_of t h] at hM
  have HA : Aside (∀ x y, (x, y) = (if (enc t).length ≤ 64 then ((0 : Nat), enc t) else (21, [])) → Ans (made i t) (.returned (.tuple #[.string (S y), rf (x : Int) (i : Int)]))) := by
    intro x y hxy
    unfold made
    by_cases hl : (enc t).length ≤ 64
    · rw [if_pos hl] at hxy; cases hxy
      rw [if_pos hl]; exact ⟨_, rfl⟩
    · rw [if_neg hl] at hxy; cases hxy
      rw [if_neg hl]; exact ⟨by simp, _, rfl⟩
  have h1 := hM _ ((Below.refl _ _).alloc (Nat.le_refl _) (.cells #[.int .i64 0, .int .i64 0] 76))
  generalize (if (enc t).length ≤ 64 then ((0 : Nat), enc t) else (21, [])) = xy at *
  obtain ⟨x, y⟩ := xy
  replace HA := HA.out x y rfl
  have HA' : Aside _ := HA
  clear hM HA hv
  simp only at h1
  generalize ((T3.Tp.hd t).toNat : Int) = hh at *
  generalize S y = sy at *
  go_enter Tryz.func78, Tryz.ntmps78
  go_wp2_with fail
  refine h1.mono ?_
  rintro e w1 ⟨rfl, hB1⟩
  have k1 : w1.heap[w.heap.size]? = some (.cells #[.int .i64 0, .int .i64 0] 76) := (hB1.block _ (by simp)).trans (heap_alloc_new _ _)
  have c10 : w1.cell? ⟨w.heap.size, 0, none⟩ = some (.int .i64 0) := (block_cells k1).1 0
  have c11 : w1.cell? ⟨w.heap.size, 1, none⟩ = some (.int .i64 0) := (block_cells k1).1 1
  have z1 := (block_cells k1).2
  have HB2 : Aside (∀ x y, Below w.heap.size w ((w1.setCell ⟨w.heap.size, 0, none⟩ x).setCell ⟨w.heap.size, 1, none⟩ y)) := fun x y => ((((Below.refl _ _).alloc (Nat.le_refl _) _).trans (hB1.mono (by simp))).setCell (by simp) _).setCell (by simp) _
  clear h1 hB1 k1
  go_wp2_with fail
  try simp only [Exit.inBlock, Exit.then]
  refine bodyPost_ret (v := .tuple #[.string sy, .agg #[.int .i64 x, .int .i64 i]]) (by simp [results, Tryz.results78, go_sem, c10, c11]) rfl ?_
  exact ⟨HA'.out, HB2.out _ _⟩

set_option maxHeartbeats 1000000 in
theorem ckMeet_any (w : World) (cb tb n k i : Nat) (a t : Ty) (hT : HasT w cb tb n) (hk : k < n) (ht : w.cell? ⟨tb, k, none⟩ = some (.string (S (enc t)))) (h1 : (enc t).length ≤ 64) (h2 : (enc a).length ≤ 64) :
    Calls Tryz.prog 104 #[.pointer (some ⟨cb, 0, none⟩), .int .i64 (i : Int), .string (S (enc a)), .int .i64 (k : Int)] w fun e w' => Ans (meetK i a (k, t)) e ∧ Below w.heap.size w w' := by
  have hC : ∀ w, Calls Tryz.prog 129 #[.string (S (enc a)), .string (S (enc t))] w fun e w' => e = .returned (.tuple #[.string (S (T3.mtS a t)), .int .i64 (T3.mtE a t : Nat)]) ∧ Below w.heap.size w w' := T3.meet_yes a t h2 h1
  have hcb : cb < w.heap.size := World.block_lt_of_cell? _ _ hT
  have htb : tb < w.heap.size := World.block_lt_of_cell? _ _ ht
  unfold HasT at hT
  have hk' : (k : Int) < (n : Int) := by omega
  have hk0 : (0 : Int) ≤ (k : Int) := by omega
  have hBa : ∀ o, Below w.heap.size w (w.alloc o) := fun o => (Below.refl _ _).alloc (Nat.le_refl _) o
  have e1 : ∀ o, (w.alloc o).cell? ⟨cb, 1, none⟩ = some (.slice (some ⟨tb, 0, none⟩) n n) := fun o => ((hBa o).cell hcb).trans hT
  have e2 : ∀ o, (w.alloc o).cell? ⟨tb, k, none⟩ = some (.string (S (enc t))) := fun o => ((hBa o).cell htb).trans ht
  have HA : Aside ((T3.mtE a t = 30 → Ans (meetK i a (k, t)) (.returned (.tuple #[.string ⟨#[]⟩, rf 25 k]))) ∧ (T3.mtE a t ≠ 30 → Ans (meetK i a (k, t)) (.returned (.tuple #[.string (S (T3.mtS a t)), rf (T3.mtE a t : Nat) i])))) := by
    show _ ∧ _
    unfold T3.mtE T3.mtS meetK
    simp only
    cases hq : cns a t with
    | false => exact ⟨fun _ => ⟨by simp, _, rfl⟩, fun h => absurd rfl h⟩
    | true =>
      simp only [if_true]
      unfold T3.Tp.merr T3.Tp.val
      by_cases hl : (enc (met a t)).length ≤ 64
      · rw [if_pos hl, if_pos hl, if_pos hl]; exact ⟨fun h => absurd h (by decide), fun _ => ⟨_, rfl⟩⟩
      · rw [if_neg hl, if_neg hl, if_neg hl]; exact ⟨fun h => absurd h (by decide), fun _ => ⟨by simp, _, rfl⟩⟩
  have hx := hC (w.alloc (.cells #[.int .i64 0, .int .i64 0] 76))
  clear hT ht hC
  have HF : Aside (∀ W, Below (w.alloc (.cells #[.int .i64 0, .int .i64 0] 76)).heap.size (w.alloc (.cells #[.int .i64 0, .int .i64 0] 76)) W → W.heap[w.heap.size]? = some (.cells #[.int .i64 0, .int .i64 0] 76) ∧ Below w.heap.size w W) := fun W hW => ⟨(hW.block _ (by simp)).trans (heap_alloc_new _ _), (hBa _).trans (hW.mono (by simp))⟩
  clear hBa
  generalize T3.mtE a t = mE at *
  generalize S (T3.mtS a t) = sm at *
  generalize S (enc t) = st at *
  generalize S (enc a) = sa at *
  by_cases h30 : mE = 30
  · subst h30
    have HA' : Aside _ := HA.out.1 rfl
    clear HA
    go_enter Tryz.func104, Tryz.ntmps104
    go_wp2_with fail
    refine hx.mono ?_
    rintro e w1 ⟨rfl, hB1⟩
    obtain ⟨k1, hB2⟩ := HF.out w1 hB1
    have c10 : w1.cell? ⟨w.heap.size, 0, none⟩ = some (.int .i64 0) := (block_cells k1).1 0
    have c11 : w1.cell? ⟨w.heap.size, 1, none⟩ = some (.int .i64 0) := (block_cells k1).1 1
    have z1 := (block_cells k1).2
    have HB2 : Aside (∀ x y, Below w.heap.size w ((w1.setCell ⟨w.heap.size, 0, none⟩ x).setCell ⟨w.heap.size, 1, none⟩ y)) := fun x y => (hB2.setCell (by simp) _).setCell (by simp) _
    clear hx hB1 k1 hB2 HF e1 e2
    go_wp2_with fail
    try simp only [Exit.inBlock, Exit.then]
    refine bodyPost_ret (v := .tuple #[.string ⟨#[]⟩, .agg #[.int .i64 25, .int .i64 k]]) (by simp [results, Tryz.results104, go_sem, c10, c11]) rfl ?_
    exact ⟨HA'.out, HB2.out _ _⟩
  · have HA' : Aside _ := HA.out.2 h30
    have h30' : ((mE : Int) == 30) = false := by simp; omega
    clear HA
    go_enter Tryz.func104, Tryz.ntmps104
    go_wp2_with fail
    refine hx.mono ?_
    rintro e w1 ⟨rfl, hB1⟩
    obtain ⟨k1, hB2⟩ := HF.out w1 hB1
    have c10 : w1.cell? ⟨w.heap.size, 0, none⟩ = some (.int .i64 0) := (block_cells k1).1 0
    have c11 : w1.cell? ⟨w.heap.size, 1, none⟩ = some (.int .i64 0) := (block_cells k1).1 1
    have z1 := (block_cells k1).2
    have HB2 : Aside (∀ x y, Below w.heap.size w ((w1.setCell ⟨w.heap.size, 0, none⟩ x).setCell ⟨w.heap.size, 1, none⟩ y)) := fun x y => (hB2.setCell (by simp) _).setCell (by simp) _
    clear hx hB1 k1 hB2 HF e1 e2
    go_wp2_with fail
    try simp only [Exit.inBlock, Exit.then]
    refine bodyPost_ret (v := .tuple #[.string sm, .agg #[.int .i64 mE, .int .i64 i]]) (by simp [results, Tryz.results104, go_sem, c10, c11]) rfl ?_
    exact ⟨HA'.out, HB2.out _ _⟩
end Go.Proofs.YthihnkgjkmaplaaGreatDoor
