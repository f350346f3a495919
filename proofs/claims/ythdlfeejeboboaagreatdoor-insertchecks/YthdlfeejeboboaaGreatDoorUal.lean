/- What the program's Meet and Join answer. Package check: the memory that a check may change; scopes; written, with. Package check: with; ask, meet, made. Package check: made, meet. -/
import Derived.Test.YthdlfeejeboboaaGreatDoorUag
import Derived.Test.YthdlfeejeboboaaGreatDoorUai
import Derived.Test.YthdlfeejeboboaaGreatDoorUak
namespace Go.Proofs.YthdlfeejeboboaaGreatDoor.T3
set_option maxRecDepth 100000
open Go.RowKit

set_option maxHeartbeats 2000000 in
theorem merge_any (F : Nat) (sv : Tp.Ty → Tp.Ty → Tp.Ty) (sb : Tp.Ty → Tp.Ty → Bool) (M : Tp.Ty → Tp.Ty → Tp.Ty) (D : Tp.Ty → Tp.Ty → Prop) (hE : ∀ args w, (callFunc F args).run Tryz.prog w = .ok (.enter F args) w) (hF : Settle2 F sv sb) (hM : Merges sv sb M D) (a b : Tp.Ty) (hD : D a b) (ha : (Tp.enc a).length ≤ 64) (hb : (Tp.enc b).length ≤ 64) (w : World) :
    Calls Tryz.prog 206 #[.string (S (Tp.enc a)), .string (S (Tp.enc b)), .func (.func F) #[] #[]] w fun e w' => e = .returned (.tuple #[.string (S (Tp.val (M a b))), .int .i64 (Tp.merr (M a b))]) ∧ Below w.heap.size w w' := by
  have hP := put_any F sv sb M D hE hF hM 64 a b
  have e41 := enters217
  have hsf := store_func
  clear hF hM
  generalize S (Tp.enc a) = s at *
  generalize S (Tp.enc b) = t at *
  go_enter Tryz.func206, Tryz.ntmps206
  go_wp2_with fail
  refine (hP _ _ _ hD ha ha hb (by simp; try omega) (by simp; try omega) ?_ ?_).mono ?_
  · exact cell_old rfl (by simp) (cell_new rfl rfl)
  · exact cell_new rfl (by simp)
  rintro e w' ⟨rfl, hB⟩
  go_wp2_with fail
  go_ret2
  refine ⟨rfl, Below.trans ?_ (hB.mono (by simp; omega))⟩
  exact ((Below.refl _ _).alloc (Nat.le_refl _) _).alloc (by simp) _

theorem enters207 : ∀ args w, (callFunc 207 args).run Tryz.prog w = .ok (.enter 207 args) w := enters_of Tryz.func207 (by kernel_rfl) rfl
def msv (a b : Tp.Ty) : Tp.Ty := if Tp.isq a then b else a
theorem settle_meet : Settle2 207 msv (fun a b => Tp.isq a || Tp.isq b) := by
  intro a b w _ _
  have h := meet1_any a b w
  have e : (if Tp.isq a then S (Tp.enc b) else S (Tp.enc a)) = S (Tp.enc (msv a b)) := by unfold msv; split <;> rfl
  rw [e] at h
  exact h
theorem merges_meet : Merges msv (fun a b => Tp.isq a || Tp.isq b) Tp.met (fun a b => Tp.cns a b = true) := by
  refine ⟨?_, ?_, ?_, ?_, ?_⟩
  · intro a b h k; cases a <;> cases b <;> simp [Tp.isq, Tp.met, msv] at h k ⊢
  · intro a b h k; unfold msv; split <;> assumption
  · intro a b h k; cases a <;> cases b <;> simp [Tp.isq, Tp.met, Tp.cns, Tp.hd] at h k ⊢
  · intro a b h k; cases a <;> cases b <;> simp [Tp.isq, Tp.met, Tp.cns, Tp.kids] at h k ⊢
  · intro a b h k n x y hx hy
    cases a <;> cases b <;> simp [Tp.isq, Tp.cns, Tp.kids] at h k hx hy
    all_goals
      match n with
      | 0 => simp at hx hy; subst hx; subst hy; first | exact h.1 | exact h
      | 1 => simp at hx hy; try (subst hx; subst hy; exact h.2)
      | _ + 2 => simp at hx

def mtS (a b : Tp.Ty) : List UInt8 := if Tp.cns a b then Tp.val (Tp.met a b) else []
def mtE (a b : Tp.Ty) : Nat := if Tp.cns a b then Tp.merr (Tp.met a b) else 30

set_option maxHeartbeats 2000000 in
theorem meet_yes (a b : Tp.Ty) (ha : (Tp.enc a).length ≤ 64) (hb : (Tp.enc b).length ≤ 64) (w : World) :
    Calls Tryz.prog 192 #[.string (S (Tp.enc a)), .string (S (Tp.enc b))] w fun e w' => e = .returned (.tuple #[.string (S (mtS a b)), .int .i64 (mtE a b)]) ∧ Below w.heap.size w w' := by
  have hg : Tp.firstBad [Tp.enc a, Tp.enc b] = 0 := good2 (by rw [Tp.chk_enc a ha]) (by rw [Tp.chk_enc b hb])
  have hc := fun w => rcheck2 w (Tp.enc a) (Tp.enc b)
  rw [hg] at hc
  have h2 := consistent_yes a b ha hb
  have h3 := fun h => merge_any 207 _ _ _ _ enters207 settle_meet merges_meet a b h ha hb
  generalize S (Tp.enc a) = s at *
  generalize S (Tp.enc b) = t at *
  cases hq : Tp.cns a b with
  | true =>
    have h3' := h3 hq
    have HM : Aside (mtS a b = Tp.val (Tp.met a b) ∧ mtE a b = Tp.merr (Tp.met a b)) := by show _ ∧ _; simp [mtS, mtE, hq]
    rw [hq] at h2
    clear h3
    go_enter Tryz.func192, Tryz.ntmps192
    go_wp2_with (first | (go_at_call 111; refine (hc _ _ rfl _ (by simp)).mono ?_; rintro e w' ⟨rfl, hw'⟩; replace hw' := hw'.symm; subst hw') | (go_at_call 21; refine (h2 _).mono ?_; rintro e w1 ⟨rfl, hB1⟩) | (go_at_call 206; refine (h3' _).mono ?_; rintro e w2 ⟨rfl, hB2⟩))
    go_ret2
    rw [HM.out.1, HM.out.2]
    exact ⟨rfl, (below_alloc _ _).trans ((hB1.mono (by simp)).trans (hB2.mono (by have := hB1.size; simp at this; omega)))⟩
  | false =>
    have HM : Aside (mtS a b = [] ∧ mtE a b = 30) := by show _ ∧ _; simp [mtS, mtE, hq]
    rw [hq] at h2
    clear h3
    go_enter Tryz.func192, Tryz.ntmps192
    go_wp2_with (first | (go_at_call 111; refine (hc _ _ rfl _ (by simp)).mono ?_; rintro e w' ⟨rfl, hw'⟩; replace hw' := hw'.symm; subst hw') | (go_at_call 21; refine (h2 _).mono ?_; rintro e w1 ⟨rfl, hB1⟩))
    go_ret2
    rw [HM.out.1, HM.out.2]
    exact ⟨rfl, (below_alloc _ _).trans (hB1.mono (by simp))⟩
end Go.Proofs.YthdlfeejeboboaaGreatDoor.T3
namespace Go.Proofs.YthdlfeejeboboaaGreatDoor
open Go.RowKit Ck
open T3.Tp (Ty enc cns met)
set_option maxRecDepth 100000
set_option linter.unusedSimpArgs false

structure Two (a b : Nat) (w w' : World) : Prop where
  os : w'.os = w.os
  tape : w'.tape = w.tape
  output : w'.output = w.output
  size : w.heap.size ≤ w'.heap.size
  block : ∀ k, k < w.heap.size → k ≠ a → k ≠ b → w'.heap[k]? = w.heap[k]?
theorem Two.refl (a b : Nat) (w : World) : Two a b w w := ⟨rfl, rfl, rfl, Nat.le_refl _, fun _ _ _ _ => rfl⟩
theorem Two.trans {a b : Nat} {w w1 w2 : World} (h : Two a b w w1) (k : Two a b w1 w2) : Two a b w w2 :=
  ⟨k.os.trans h.os, k.tape.trans h.tape, k.output.trans h.output, Nat.le_trans h.size k.size, fun j hj ha hb => (k.block j (Nat.lt_of_lt_of_le hj h.size) ha hb).trans (h.block j hj ha hb)⟩
theorem below_two {w w' : World} (h : Below w.heap.size w w') (a b : Nat) : Two a b w w' := ⟨h.os, h.tape, h.output, h.size, fun j hj _ _ => h.block j hj⟩
theorem Two.below {a b : Nat} {w w1 w2 : World} (h : Two a b w w1) (k : Below w1.heap.size w1 w2) : Two a b w w2 := h.trans (below_two k a b)
theorem Two.cell {a b : Nat} {w w' : World} (h : Two a b w w') {p : Addr} (hp : p.block < w.heap.size) (ha : p.block ≠ a) (hb : p.block ≠ b) : w'.cell? p = w.cell? p := World.cell?_of_block (h.block _ hp ha hb)
theorem Two.setA {a b : Nat} {w w' : World} (h : Two a b w w') (o : Nat) (u : Value) : Two a b w (w'.setCell ⟨a, o, none⟩ u) :=
  ⟨h.os, h.tape, h.output, by simpa [World.setCell] using h.size, fun k hk ha hb => by rw [Below.heap_setCell _ _ _ _ ha]; exact h.block k hk ha hb⟩
theorem Two.setB {a b : Nat} {w w' : World} (h : Two a b w w') (o : Nat) (u : Value) : Two a b w (w'.setCell ⟨b, o, none⟩ u) :=
  ⟨h.os, h.tape, h.output, by simpa [World.setCell] using h.size, fun k hk ha hb => by rw [Below.heap_setCell _ _ _ _ hb]; exact h.block k hk ha hb⟩

def lookS (env : Env) (n : ByteArray) : ByteArray := match Ck.look env n.data.toList with | some t => S (enc t) | none => ⟨#[]⟩
def lookB (env : Env) (n : ByteArray) : Bool := (Ck.look env n.data.toList).isSome
def Scope (a b : Nat) (w : World) (v : Value) (env : Env) : Prop :=
  ∃ F caps, v = .func (.func F) #[] caps ∧ (∀ args w, (callFunc F args).run Tryz.prog w = .ok (.enter F args) w) ∧
    ∀ w', Two a b w w' → ∀ n : ByteArray, n.size ≤ maxLen → Calls Tryz.prog F (#[.string n] ++ caps) w' fun e w2 => e = .returned (.tuple #[.string (lookS env n), .bool (lookB env n)]) ∧ w2 = w'
theorem Scope.next {a b : Nat} {w w' : World} {v : Value} {env : Env} (h : Scope a b w v env) (k : Two a b w w') : Scope a b w' v env := by
  obtain ⟨F, caps, h1, h2, h3⟩ := h
  exact ⟨F, caps, h1, h2, fun w2 hw => h3 w2 (k.trans hw)⟩

theorem written_any (s : ByteArray) (w : World) : Calls Tryz.prog 140 #[.string s] w fun e w' => e = .returned (.string (if s.size = 0 then ⟨#[63]⟩ else s)) ∧ w' = w := by
  by_cases h : s = ⟨#[]⟩
  · subst h
    go_enter Tryz.func140, Tryz.ntmps140
    go_wp2_with fail
    go_ret
    exact ⟨rfl, rfl⟩
  · have hs : s.size ≠ 0 := fun e => h (by obtain ⟨⟨l⟩⟩ := s; simp [ByteArray.size] at e; simp [e])
    have hb : (s.toList == []) = false := by have := (Lib.bytes_beq_false_iff s ⟨#[]⟩).2 h; simpa using this
    go_enter Tryz.func140, Tryz.ntmps140
    go_wp2_with fail
    go_ret
    exact ⟨rfl, rfl⟩
end Go.Proofs.YthdlfeejeboboaaGreatDoor
namespace Go.Proofs.YthdlfeejeboboaaGreatDoor
open Go.RowKit Ck
open T3.Tp (Ty enc cns met)
set_option maxRecDepth 100000
set_option linter.unusedSimpArgs false

theorem look_cons (n : ByteArray) (t : Ty) (env : Env) (m : ByteArray) : lookS ((n.data.toList, t) :: env) m = (if m = n then S (enc t) else lookS env m) ∧ lookB ((n.data.toList, t) :: env) m = (if m = n then true else lookB env m) := by
  have hl : Ck.look ((n.data.toList, t) :: env) m.data.toList = if m.data.toList = n.data.toList then some t else Ck.look env m.data.toList := rfl
  unfold lookS lookB
  rw [hl]
  by_cases h : m = n
  · subst h; simp
  · have : ¬ m.data.toList = n.data.toList := fun e => h (by cases m; cases n; simpa using e)
    simp [h, this]
theorem enters_with1 : ∀ args w, (callFunc 172 args).run Tryz.prog w = .ok (.enter 172 args) w := enters_of Tryz.func172 (by kernel_rfl) rfl

set_option maxHeartbeats 1000000 in
theorem with1_any (w : World) (g1 g2 g3 F : Nat) (caps : Array Value) (n m : ByteArray) (t : Ty) (env : Env)
    (hE : ∀ args w, (callFunc F args).run Tryz.prog w = .ok (.enter F args) w)
    (h1 : w.cell? ⟨g1, 0, none⟩ = some (.string n)) (h2 : w.cell? ⟨g2, 0, none⟩ = some (.string (S (enc t)))) (h3 : w.cell? ⟨g3, 0, none⟩ = some (.func (.func F) #[] caps))
    (hC : Calls Tryz.prog F (#[.string m] ++ caps) w fun e w2 => e = .returned (.tuple #[.string (lookS env m), .bool (lookB env m)]) ∧ w2 = w) :
    Calls Tryz.prog 172 #[.string m, .pointer (some ⟨g1, 0, none⟩), .pointer (some ⟨g2, 0, none⟩), .pointer (some ⟨g3, 0, none⟩)] w fun e w2 => e = .returned (.tuple #[.string (lookS ((n.data.toList, t) :: env) m), .bool (lookB ((n.data.toList, t) :: env) m)]) ∧ w2 = w := by
  rw [(look_cons n t env m).1, (look_cons n t env m).2]
  generalize S (enc t) = st at *
  by_cases h : m = n
  · subst h
    rw [if_pos rfl, if_pos rfl]
    have hb : (m.toList == m.toList) = true := by simp
    clear hC
    go_enter Tryz.func172, Tryz.ntmps172
    go_wp2_with fail
    go_ret2
    exact ⟨rfl, rfl⟩
  · rw [if_neg h, if_neg h]
    have hb : (m.toList == n.toList) = false := (Lib.bytes_beq_false_iff m n).2 h
    go_enter Tryz.func172, Tryz.ntmps172
    go_wp2_with (refine hC.mono ?_; rintro e w2 ⟨rfl, rfl⟩)
    go_ret2
    exact ⟨rfl, rfl⟩

def rf (c p : Int) : Value := .agg #[.int .i64 c, .int .i64 p]
def HasT (w : World) (cb tb n : Nat) : Prop := w.cell? ⟨cb, 1, none⟩ = some (.slice (some ⟨tb, 0, none⟩) n n)
theorem HasT.below {w w' : World} {cb tb n : Nat} (h : HasT w cb tb n) (hc : cb < w.heap.size) (hB : Below w.heap.size w w') : HasT w' cb tb n := (hB.cell (p := ⟨cb, 1, none⟩) hc).trans h

set_option maxHeartbeats 1000000 in
theorem ask_any (w : World) (cb tb n k : Nat) (t u : Ty) (c p : Int) (hT : HasT w cb tb n) (hk : k < n) (ht : w.cell? ⟨tb, k, none⟩ = some (.string (S (enc t)))) (h1 : (enc t).length ≤ 64) (h2 : (enc u).length ≤ 64) :
    Calls Tryz.prog 143 #[.pointer (some ⟨cb, 0, none⟩), .int .i64 (k : Int), .string (S (enc u)), rf c p] w fun e w' => e = .returned (if cns t u then rf 0 0 else rf c p) ∧ Below w.heap.size w w' := by
  have hC : ∀ w, Calls Tryz.prog 21 #[.string (S (enc t)), .string (S (enc u))] w fun e w' => e = .returned (.bool (cns t u)) ∧ Below w.heap.size w w' := T3.consistent_yes t u h1 h2
  have hcb : cb < w.heap.size := World.block_lt_of_cell? _ _ hT
  have htb : tb < w.heap.size := World.block_lt_of_cell? _ _ ht
  unfold rf
  have hT' := hT
  unfold HasT at hT'
  have hk' : (k : Int) < (n : Int) := by omega
  have hk0 : (0 : Int) ≤ (k : Int) := by omega
  have e1 : ∀ o1 o2, ((w.alloc o1).alloc o2).cell? ⟨cb, 1, none⟩ = some (.slice (some ⟨tb, 0, none⟩) n n) := fun o1 o2 => ((((Below.refl _ _).alloc (Nat.le_refl _) o1).alloc (by simp) o2 : Below w.heap.size w _).cell hcb).trans hT'
  have e2 : ∀ o1 o2, ((w.alloc o1).alloc o2).cell? ⟨tb, k, none⟩ = some (.string (S (enc t))) := fun o1 o2 => ((((Below.refl _ _).alloc (Nat.le_refl _) o1).alloc (by simp) o2 : Below w.heap.size w _).cell htb).trans ht
  have HB : Aside (∀ o1 o2 W, Below ((w.alloc o1).alloc o2).heap.size ((w.alloc o1).alloc o2) W → Below w.heap.size w W) := fun o1 o2 W h => (((Below.refl _ _).alloc (Nat.le_refl _) o1).alloc (by simp) o2).trans (h.mono (by simp; omega))
  clear hT ht hT'
  show Calls _ _ _ _ fun e w' => e = .returned (if cns t u = true then Value.agg #[.int .i64 0, .int .i64 0] else .agg #[.int .i64 c, .int .i64 p]) ∧ _
  generalize S (T3.Tp.enc t) = st at *
  generalize S (T3.Tp.enc u) = su at *
  have f1 : ∀ W, Below ((w.alloc (.cells #[.int .i64 c, .int .i64 p] 98)).alloc (.cells #[.int .i64 0, .int .i64 0] 98)).heap.size ((w.alloc (.cells #[.int .i64 c, .int .i64 p] 98)).alloc (.cells #[.int .i64 0, .int .i64 0] 98)) W →
      W.heap[w.heap.size]? = some (.cells #[.int .i64 c, .int .i64 p] 98) ∧ W.heap[w.heap.size + 1]? = some (.cells #[.int .i64 0, .int .i64 0] 98) := fun W hW =>
    ⟨(hW.block _ (by simp; omega)).trans ((Below.heap_alloc _ _ _ (by simp)).trans (heap_alloc_new _ _)), (hW.block _ (by simp)).trans (by have := heap_alloc_new (w.alloc (.cells #[.int .i64 c, .int .i64 p] 98)) (.cells #[.int .i64 0, .int .i64 0] 98); simpa using this)⟩
  have HF : Aside _ := f1
  clear f1
  cases hq : T3.Tp.cns t u with
  | true =>
    rw [hq] at hC
    go_enter Tryz.func143, Tryz.ntmps143
    go_wp2_with fail
    refine (hC _).mono ?_
    rintro e w1 ⟨rfl, hB1⟩
    obtain ⟨k0, k1⟩ := HF.out w1 hB1
    obtain ⟨c1, z1⟩ := block_cells k1
    have c00 : w1.cell? ⟨w.heap.size, 0, none⟩ = some (.int .i64 c) := (block_cells k0).1 0
    have c01 : w1.cell? ⟨w.heap.size, 1, none⟩ = some (.int .i64 p) := (block_cells k0).1 1
    have c10 : w1.cell? ⟨w.heap.size + 1, 0, none⟩ = some (.int .i64 0) := c1 0
    have c11 : w1.cell? ⟨w.heap.size + 1, 1, none⟩ = some (.int .i64 0) := c1 1
    have HB1 := HB.out _ _ w1 hB1
    have HB2 : Aside (∀ x y, Below w.heap.size w ((w1.setCell ⟨w.heap.size + 1, 0, none⟩ x).setCell ⟨w.heap.size + 1, 1, none⟩ y)) := fun x y => (HB1.setCell (by simp) _).setCell (by simp) _
    clear hC hB1 HB HB1 k0 k1 HF e1 e2 c1
    go_wp2_with fail
    try simp only [Exit.inBlock, Exit.then]
    refine bodyPost_ret (v := .agg #[.int .i64 0, .int .i64 0]) (by simp [results, Tryz.results143, go_sem, c10, c11]) rfl ?_
    exact ⟨rfl, HB2.out _ _⟩
  | false =>
    rw [hq] at hC
    go_enter Tryz.func143, Tryz.ntmps143
    go_wp2_with fail
    refine (hC _).mono ?_
    rintro e w1 ⟨rfl, hB1⟩
    obtain ⟨k0, k1⟩ := HF.out w1 hB1
    obtain ⟨c1, z1⟩ := block_cells k1
    have c00 : w1.cell? ⟨w.heap.size, 0, none⟩ = some (.int .i64 c) := (block_cells k0).1 0
    have c01 : w1.cell? ⟨w.heap.size, 1, none⟩ = some (.int .i64 p) := (block_cells k0).1 1
    have c10 : w1.cell? ⟨w.heap.size + 1, 0, none⟩ = some (.int .i64 0) := c1 0
    have c11 : w1.cell? ⟨w.heap.size + 1, 1, none⟩ = some (.int .i64 0) := c1 1
    have HB1 := HB.out _ _ w1 hB1
    have HB2 : Aside (∀ x y, Below w.heap.size w ((w1.setCell ⟨w.heap.size + 1, 0, none⟩ x).setCell ⟨w.heap.size + 1, 1, none⟩ y)) := fun x y => (HB1.setCell (by simp) _).setCell (by simp) _
    clear hC hB1 HB HB1 k0 k1 HF e1 e2 c1
    go_wp2_with fail
    try simp only [Exit.inBlock, Exit.then]
    refine bodyPost_ret (v := .agg #[.int .i64 c, .int .i64 p]) (by simp [results, Tryz.results143, go_sem, c10, c11]) rfl ?_
    exact ⟨rfl, HB2.out _ _⟩
end Go.Proofs.YthdlfeejeboboaaGreatDoor
namespace Go.Proofs.YthdlfeejeboboaaGreatDoor
open Go.RowKit Ck
open T3.Tp (Ty enc cns met)
set_option maxRecDepth 100000
set_option linter.unusedSimpArgs false

def Ans (r : Rs Ty) (e : Ending) : Prop := match r with
  | .ok t => ∃ p : Int, e = .returned (.tuple #[.string (S (enc t)), rf 0 p])
  | .error q => q.1 ≠ 0 ∧ ∃ s, e = .returned (.tuple #[.string s, rf q.1 q.2])

theorem mkF_of (t : Ty) (h : ∀ u ∈ T3.Tp.kids t, (enc u).length ≤ 64) : T3.Tp.mkF (T3.Tp.hd t) ((T3.Tp.kids t).map enc) = if (enc t).length ≤ 64 then (0, enc t) else (21, []) := by
  have h1 : T3.Tp.ar (T3.Tp.hd t).toNat = ((T3.Tp.kids t).map enc).length := by rw [T3.Tp.ar_hd, List.length_map]
  have h2 : T3.Tp.firstBad ((T3.Tp.kids t).map enc) = 0 := T3.Tp.firstBad_encs _ h
  have h3 : enc t = T3.Tp.hd t :: ((T3.Tp.kids t).map enc).flatten := T3.Tp.enc_eq t
  have h4 : (enc t).length = 1 + ((T3.Tp.kids t).map enc).flatten.length := by rw [h3]; simp [Nat.add_comm]
  by_cases hl : (enc t).length ≤ 64
  · rw [if_pos hl, T3.Tp.mk_ok h1 h2 (by omega), ← h3]
  · rw [if_neg hl, T3.Tp.mk_large h1 h2 (by omega)]

set_option maxHeartbeats 1000000 in
theorem made_any (t : Ty) (i : Nat) (v : Value) (w : World) (h : ∀ u ∈ T3.Tp.kids t, (enc u).length ≤ 64) (hv : T3.IsTexts w v ((T3.Tp.kids t).map enc)) (hk : (T3.Tp.kids t).length ≤ 2) :
    Calls Tryz.prog 145 #[.int .i64 (i : Int), .int .u8 ((T3.Tp.hd t).toNat : Int), v] w fun e w' => Ans (made i t) e ∧ Below w.heap.size w w' := by
  have hM : ∀ w' : World, Below w.heap.size w w' → Calls Tryz.prog 139 #[.int .u8 ((T3.Tp.hd t).toNat : Int), v] w' fun e w2 => e = .returned (.tuple #[.string (S (T3.Tp.mkF (T3.Tp.hd t) ((T3.Tp.kids t).map enc)).2), .int .i64 (T3.Tp.mkF (T3.Tp.hd t) ((T3.Tp.kids t).map enc)).1]) ∧ Below w'.heap.size w' w2 :=
    fun w' hB => T3.make_any (T3.Tp.hd t) v _ w' (hv.below hB) (by rw [List.length_map]; omega)
  rw [mkF_of t h] at hM
  have HA : Aside (∀ x y, (x, y) = (if (enc t).length ≤ 64 then ((0 : Nat), enc t) else (21, [])) → Ans (made i t) (.returned (.tuple #[.string (S y), rf (x : Int) (i : Int)]))) := by
    intro x y hxy
    unfold made
    by_cases hl : (enc t).length ≤ 64
    · rw [if_pos hl] at hxy; cases hxy
      rw [if_pos hl]; exact ⟨_, rfl⟩
    · rw [if_neg hl] at hxy; cases hxy
      rw [if_neg hl]; exact ⟨by simp, _, rfl⟩
  have h1 := hM _ ((Below.refl _ _).alloc (Nat.le_refl _) (.cells #[.int .i64 0, .int .i64 0] 98))
  generalize (if (enc t).length ≤ 64 then ((0 : Nat), enc t) else (21, [])) = xy at *
  obtain ⟨x, y⟩ := xy
  replace HA := HA.out x y rfl
  have HA' : Aside _ := HA
  clear hM HA hv
  simp only at h1
  generalize ((T3.Tp.hd t).toNat : Int) = hh at *
  generalize S y = sy at *
  go_enter Tryz.func145, Tryz.ntmps145
  go_wp2_with fail
  refine h1.mono ?_
  rintro e w1 ⟨rfl, hB1⟩
  have k1 : w1.heap[w.heap.size]? = some (.cells #[.int .i64 0, .int .i64 0] 98) := (hB1.block _ (by simp)).trans (heap_alloc_new _ _)
  have c10 : w1.cell? ⟨w.heap.size, 0, none⟩ = some (.int .i64 0) := (block_cells k1).1 0
  have c11 : w1.cell? ⟨w.heap.size, 1, none⟩ = some (.int .i64 0) := (block_cells k1).1 1
  have z1 := (block_cells k1).2
  have HB2 : Aside (∀ x y, Below w.heap.size w ((w1.setCell ⟨w.heap.size, 0, none⟩ x).setCell ⟨w.heap.size, 1, none⟩ y)) := fun x y => ((((Below.refl _ _).alloc (Nat.le_refl _) _).trans (hB1.mono (by simp))).setCell (by simp) _).setCell (by simp) _
  clear h1 hB1 k1
  go_wp2_with fail
  try simp only [Exit.inBlock, Exit.then]
  refine bodyPost_ret (v := .tuple #[.string sy, .agg #[.int .i64 x, .int .i64 i]]) (by simp [results, Tryz.results145, go_sem, c10, c11]) rfl ?_
  exact ⟨HA'.out, HB2.out _ _⟩

set_option maxHeartbeats 1000000 in
theorem ckMeet_any (w : World) (cb tb n k i : Nat) (a t : Ty) (hT : HasT w cb tb n) (hk : k < n) (ht : w.cell? ⟨tb, k, none⟩ = some (.string (S (enc t)))) (h1 : (enc t).length ≤ 64) (h2 : (enc a).length ≤ 64) :
    Calls Tryz.prog 173 #[.pointer (some ⟨cb, 0, none⟩), .int .i64 (i : Int), .string (S (enc a)), .int .i64 (k : Int)] w fun e w' => Ans (meetK i a (k, t)) e ∧ Below w.heap.size w w' := by
  have hC : ∀ w, Calls Tryz.prog 192 #[.string (S (enc a)), .string (S (enc t))] w fun e w' => e = .returned (.tuple #[.string (S (T3.mtS a t)), .int .i64 (T3.mtE a t : Nat)]) ∧ Below w.heap.size w w' := T3.meet_yes a t h2 h1
  have hcb : cb < w.heap.size := World.block_lt_of_cell? _ _ hT
  have htb : tb < w.heap.size := World.block_lt_of_cell? _ _ ht
  unfold HasT at hT
  have hk' : (k : Int) < (n : Int) := by omega
  have hk0 : (0 : Int) ≤ (k : Int) := by omega
  have hBa : ∀ o, Below w.heap.size w (w.alloc o) := fun o => (Below.refl _ _).alloc (Nat.le_refl _) o
  have e1 : ∀ o, (w.alloc o).cell? ⟨cb, 1, none⟩ = some (.slice (some ⟨tb, 0, none⟩) n n) := fun o => ((hBa o).cell hcb).trans hT
  have e2 : ∀ o, (w.alloc o).cell? ⟨tb, k, none⟩ = some (.string (S (enc t))) := fun o => ((hBa o).cell htb).trans ht
  have HA : Aside ((T3.mtE a t = 30 → Ans (meetK i a (k, t)) (.returned (.tuple #[.string ⟨#[]⟩, rf 25 k]))) ∧ (T3.mtE a t ≠ 30 → Ans (meetK i a (k, t)) (.returned (.tuple #[.string (S (T3.mtS a t)), rf (T3.mtE a t : Nat) i])))) := by
    show _ ∧ _
    unfold T3.mtE T3.mtS meetK
    simp only
    cases hq : cns a t with
    | false => exact ⟨fun _ => ⟨by simp, _, rfl⟩, fun h => absurd rfl h⟩
    | true =>
      simp only [if_true]
      unfold T3.Tp.merr T3.Tp.val
      by_cases hl : (enc (met a t)).length ≤ 64
      · rw [if_pos hl, if_pos hl, if_pos hl]; exact ⟨fun h => absurd h (by decide), fun _ => ⟨_, rfl⟩⟩
      · rw [if_neg hl, if_neg hl, if_neg hl]; exact ⟨fun h => absurd h (by decide), fun _ => ⟨by simp, _, rfl⟩⟩
  have hx := hC (w.alloc (.cells #[.int .i64 0, .int .i64 0] 98))
  clear hT ht hC
  have HF : Aside (∀ W, Below (w.alloc (.cells #[.int .i64 0, .int .i64 0] 98)).heap.size (w.alloc (.cells #[.int .i64 0, .int .i64 0] 98)) W → W.heap[w.heap.size]? = some (.cells #[.int .i64 0, .int .i64 0] 98) ∧ Below w.heap.size w W) := fun W hW => ⟨(hW.block _ (by simp)).trans (heap_alloc_new _ _), (hBa _).trans (hW.mono (by simp))⟩
  clear hBa
  generalize T3.mtE a t = mE at *
  generalize S (T3.mtS a t) = sm at *
  generalize S (enc t) = st at *
  generalize S (enc a) = sa at *
  by_cases h30 : mE = 30
  · subst h30
    have HA' : Aside _ := HA.out.1 rfl
    clear HA
    go_enter Tryz.func173, Tryz.ntmps173
    go_wp2_with fail
    refine hx.mono ?_
    rintro e w1 ⟨rfl, hB1⟩
    obtain ⟨k1, hB2⟩ := HF.out w1 hB1
    have c10 : w1.cell? ⟨w.heap.size, 0, none⟩ = some (.int .i64 0) := (block_cells k1).1 0
    have c11 : w1.cell? ⟨w.heap.size, 1, none⟩ = some (.int .i64 0) := (block_cells k1).1 1
    have z1 := (block_cells k1).2
    have HB2 : Aside (∀ x y, Below w.heap.size w ((w1.setCell ⟨w.heap.size, 0, none⟩ x).setCell ⟨w.heap.size, 1, none⟩ y)) := fun x y => (hB2.setCell (by simp) _).setCell (by simp) _
    clear hx hB1 k1 hB2 HF e1 e2
    go_wp2_with fail
    try simp only [Exit.inBlock, Exit.then]
    refine bodyPost_ret (v := .tuple #[.string ⟨#[]⟩, .agg #[.int .i64 25, .int .i64 k]]) (by simp [results, Tryz.results173, go_sem, c10, c11]) rfl ?_
    exact ⟨HA'.out, HB2.out _ _⟩
  · have HA' : Aside _ := HA.out.2 h30
    have h30' : ((mE : Int) == 30) = false := by simp; omega
    clear HA
    go_enter Tryz.func173, Tryz.ntmps173
    go_wp2_with fail
    refine hx.mono ?_
    rintro e w1 ⟨rfl, hB1⟩
    obtain ⟨k1, hB2⟩ := HF.out w1 hB1
    have c10 : w1.cell? ⟨w.heap.size, 0, none⟩ = some (.int .i64 0) := (block_cells k1).1 0
    have c11 : w1.cell? ⟨w.heap.size, 1, none⟩ = some (.int .i64 0) := (block_cells k1).1 1
    have z1 := (block_cells k1).2
    have HB2 : Aside (∀ x y, Below w.heap.size w ((w1.setCell ⟨w.heap.size, 0, none⟩ x).setCell ⟨w.heap.size, 1, none⟩ y)) := fun x y => (hB2.setCell (by simp) _).setCell (by simp) _
    clear hx hB1 k1 hB2 HF e1 e2
    go_wp2_with fail
    try simp only [Exit.inBlock, Exit.then]
    refine bodyPost_ret (v := .tuple #[.string sm, .agg #[.int .i64 mE, .int .i64 i]]) (by simp [results, Tryz.results173, go_sem, c10, c11]) rfl ?_
    exact ⟨HA'.out, HB2.out _ _⟩
end Go.Proofs.YthdlfeejeboboaaGreatDoor
