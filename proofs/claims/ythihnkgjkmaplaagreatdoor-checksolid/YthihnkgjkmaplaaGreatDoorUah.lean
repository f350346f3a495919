/- The rules of layer 8 as plain functions on trees. Nothing of the program is named here. What the program's and the document's questions about one byte answer; small facts on memory. The program's map of words, IsWord and IsName. -/
import Derived.Test.YthihnkgjkmaplaaGreatDoorUag
import Derived.Test.YthihnkgjkmaplaaGreatDoorUac
import Derived.Test.YthihnkgjkmaplaaGreatDoorRows
import Derived.WalkKit
import Derived.WalkSpells
import Derived.WalkLawsBesides
import Derived.Deep.LoopGhost
import Derived.Deep.QuietTactic
import Derived.BigQuiet
import Derived.Maps.Own
import Derived.Maps.OwnOps
import Derived.Maps.OwnSet
import Derived.Maps.Views
namespace Go.Proofs.YthihnkgjkmaplaaGreatDoor
set_option maxRecDepth 100000
namespace Ck
open T3.Tp (Ty enc cns prc met sta)
open Tr (T Nd nm cut32)

/-- A type's letters, read; what is behind them. -/
def dec1 : Nat → List UInt8 → Option (Ty × List UInt8)
  | 0, _ => none
  | _, [] => none
  | f + 1, c :: r =>
    if c = 105 then some (.ti, r) else if c = 98 then some (.tb, r) else if c = 116 then some (.tt, r) else if c = 63 then some (.tq, r)
    else if c = 108 then (dec1 f r).map fun p => (.tl p.1, p.2)
    else if c = 120 then (dec1 f r).map fun p => (.tx p.1, p.2)
    else if c = 62 then (dec1 f r).bind fun p => (dec1 f p.2).map fun q => (.tf p.1 q.1, q.2)
    else if c = 44 then (dec1 f r).bind fun p => (dec1 f p.2).map fun q => (.tp p.1 q.1, q.2)
    else none
theorem dec1_enc : ∀ (t : Ty) (f : Nat) (r : List UInt8), (enc t).length ≤ f → dec1 f (enc t ++ r) = some (t, r) := by
  intro t
  induction t with
  | ti | tb | tt | tq => intro f r h; cases f with | zero => simp [T3.Tp.enc] at h | succ f => rfl
  | tl a ih | tx a ih =>
    intro f r h
    cases f with
    | zero => simp [T3.Tp.enc] at h
    | succ f => simp [T3.Tp.enc] at h; simp [T3.Tp.enc, dec1, ih f r h]
  | tf a b iha ihb | tp a b iha ihb =>
    intro f r h
    cases f with
    | zero => simp [T3.Tp.enc] at h
    | succ f =>
      simp [T3.Tp.enc] at h
      simp [T3.Tp.enc, dec1, List.append_assoc, iha f (enc b ++ r) (by omega), ihb f r (by omega)]
def tyOf (l : List UInt8) : Ty := match dec1 l.length l with
  | some (t, _) => t
  | none => .tq
theorem tyOf_enc (t : Ty) : tyOf (enc t) = t := by
  have := dec1_enc t (enc t).length [] (Nat.le_refl _)
  rw [List.append_nil] at this
  unfold tyOf
  rw [this]
/-- An annotation as a type: absent is ?. -/
def wr (s : ByteArray) : Ty := if s.size = 0 then .tq else tyOf s.data.toList
abbrev sz (t : Ty) : Nat := (enc t).length

/-- An environment, the latest name first. -/
abbrev Env := List (List UInt8 × Ty)
def look : Env → List UInt8 → Option Ty
  | [], _ => none
  | (n, t) :: r, a => if a = n then some t else look r a
/-- The environment at a node's kid number j. -/
def inner (x : Nd) (j : Nat) (env : Env) : Env :=
  if x.kind = 5 then (nm x, wr x.t) :: env
  else if x.kind = 6 then ((cut32 (nm x)).2.1, wr x.t) :: ((cut32 (nm x)).1, .tf (wr x.t) (wr x.u)) :: env
  else if x.kind = 8 ∧ j = 1 then (nm x, wr x.t) :: env else env

abbrev Rs := Except (Int × Nat)
/-- The parts of a type of a head; of ? twice ?. -/
def mt : Ty → UInt8 → Option (Ty × Ty)
  | .tq, _ => some (.tq, .tq)
  | .tf a b, h => if h = 62 then some (a, b) else none
  | .tp a b, h => if h = 44 then some (a, b) else none
  | .tl a, h => if h = 108 then some (a, a) else none
  | .tx a, h => if h = 120 then some (a, a) else none
  | _, _ => none
def ask (t u : Ty) (e : Int × Nat) : Rs Unit := if cns t u then .ok () else .error e
/-- Operations: what is asked of each kid, and what is given. -/
def opT (k : Int) : Ty × Ty :=
  if k = 1 then (.tq, .ti) else if k = 2 then (.tq, .tt) else if k = 3 then (.tq, .tb)
  else if k = 10 ∨ k = 11 ∨ k = 12 ∨ k = 16 then (.ti, .ti) else if k = 13 then (.tt, .tt)
  else if k = 14 ∨ k = 15 then (.ti, .tb) else (.tt, .ti)
/-- Uses: the kid that is used, the head, and which of A, B, lA, b is given; none: no use. -/
def useT (k : Int) : Option (Nat × UInt8 × Nat) :=
  if k = 7 then some (0, 62, 1) else if k = 19 then some (0, 44, 0) else if k = 20 then some (0, 44, 1)
  else if k = 22 then some (0, 108, 0) else if k = 23 then some (0, 108, 2) else if k = 24 then some (0, 108, 3)
  else if k = 25 then some (1, 108, 2) else if k = 27 then some (0, 120, 0) else if k = 28 then some (0, 120, 0) else none
def giv (g : Nat) (a b : Ty) : Ty := if g = 0 then a else if g = 1 then b else if g = 2 then .tl a else .tb
def asks (u : Ty) : List (Nat × Ty) → Rs Unit
  | [] => .ok ()
  | (p, t) :: r => if cns t u then asks u r else .error (23, p)
/-- The other kids, if there are any, are asked to be an A. -/
def others (A : Ty) (kid : Nat) : Nat → List (Nat × Ty) → Rs Unit
  | _, [] => .ok ()
  | j, (p, t) :: r => if j = kid then others A kid (j + 1) r else if cns t A then others A kid (j + 1) r else .error (23, p)
def use (u : Nat × UInt8 × Nat) (ks : List (Nat × Ty)) : Rs Ty :=
  match ks[u.1]? with
  | none => .error (0, 0)
  | some (p, t) => match mt t u.2.1 with
    | none => .error (24, p)
    | some (A, B) => match others A u.1 0 ks with
      | .error e => .error e
      | .ok _ => .ok (giv u.2.2 A B)
def opr (o : Ty × Ty) (ks : List (Nat × Ty)) : Rs Ty := match asks o.1 ks with
  | .error e => .error e
  | .ok _ => .ok o.2
def meetK (i : Nat) (all : Ty) (k : Nat × Ty) : Rs Ty := if cns all k.2 then (if sz (met all k.2) ≤ 64 then .ok (met all k.2) else .error (21, i)) else .error (25, k.1)
def meets (i : Nat) : Ty → List (Nat × Ty) → Rs Ty
  | all, [] => .ok all
  | all, k :: r => match meetK i all k with
    | .error e => .error e
    | .ok b => meets i b r
def made (i : Nat) (t : Ty) : Rs Ty := if sz t ≤ 64 then .ok t else .error (21, i)
/-- A node's type, of its kids' places and types. -/
def rule (env : Env) (x : Nd) (i : Nat) (ks : List (Nat × Ty)) : Rs Ty :=
  if x.kind = 4 then (match look env (nm x) with | none => .error (22, i) | some t => .ok t)
  else if x.kind = 5 ∨ x.kind = 6 then (match ks with | k :: _ => if cns k.2 (wr x.u) then .ok (.tf (wr x.t) (wr x.u)) else .error (23, k.1) | [] => .error (0, 0))
  else if x.kind = 8 then (match ks with | k :: b :: _ => if cns k.2 (wr x.t) then .ok b.2 else .error (23, k.1) | _ => .error (0, 0))
  else if x.kind = 29 then (match ks with | k :: _ => if cns k.2 (wr x.t) then .ok (wr x.t) else .error (23, i) | [] => .error (0, 0))
  else if x.kind = 9 then (match ks with | c :: a :: b :: _ => if cns c.2 .tb then meetK i a.2 b else .error (23, c.1) | _ => .error (0, 0))
  else if x.kind = 18 then (match ks with | a :: b :: _ => made i (.tp a.2 b.2) | _ => .error (0, 0))
  else if x.kind = 26 then (match ks with | a :: _ => made i (.tx a.2) | _ => .error (0, 0))
  else if x.kind = 21 then (match meets i .tq ks with | .error e => .error e | .ok t => made i (.tl t))
  else match useT x.kind with
    | some u => use u ks
    | none => opr (opT x.kind) ks
def ahead (x : Nd) : Bool := (x.kind == 5 || x.kind == 6) && decide (64 < sz (.tf (wr x.t) (wr x.u)))
mutual
/-- The types of a part's nodes, or the first refusal. -/
def ckT (env : Env) : T → Nat → Rs (List Ty)
  | .nd x ks, i => if ahead x then .error (21, i) else
    match ckL env x 0 ks (i + 1) with
    | .error e => .error e
    | .ok rs => match rule env x i (rs.map fun r => (r.1, r.2.headD .tq)) with
      | .error e => .error e
      | .ok t => .ok (t :: (rs.map Prod.snd).flatten)
def ckL (env : Env) (x : Nd) (j : Nat) : List T → Nat → Rs (List (Nat × List Ty))
  | [], _ => .ok []
  | t :: r, i => match ckT (inner x j env) t i with
    | .error e => .error e
    | .ok a => match ckL env x (j + 1) r (i + (Tr.flat t).length) with
      | .error e => .error e
      | .ok b => .ok ((i, a) :: b)
end
end Ck
end Go.Proofs.YthihnkgjkmaplaaGreatDoor
namespace Go.Proofs.YthihnkgjkmaplaaGreatDoor
open Go.RowKit
set_option maxRecDepth 100000

theorem ret_bool {a b : Bool} (h : a = b) : Ending.returned (.bool a) = .returned (.bool b) := by rw [h]

set_option maxHeartbeats 400000 in
theorem isLetter_any (c : Int) (w : World) :
    Calls Tryz.prog 64 #[.int .u8 c] w fun e w' => e = .returned (.bool (Tx.letterB c)) ∧ w' = w := by
  go_enter Tryz.func64, Tryz.ntmps64
  go_wp2
  all_goals
    go_ret
    refine ⟨ret_bool ?_, rfl⟩
    unfold Tx.letterB
    rw [Bool.eq_iff_iff]; simp; omega

set_option maxHeartbeats 400000 in
theorem isDigit_any (c : Int) (w : World) :
    Calls Tryz.prog 96 #[.int .u8 c] w fun e w' => e = .returned (.bool (Tx.digitB c)) ∧ w' = w := by
  go_enter Tryz.func96, Tryz.ntmps96
  go_wp2
  all_goals
    go_ret
    refine ⟨ret_bool ?_, rfl⟩
    unfold Tx.digitB
    rw [Bool.eq_iff_iff]; simp; omega

set_option maxHeartbeats 400000 in
theorem isSeen_any (c : Int) (w : World) :
    Calls Tryz.prog 99 #[.int .u8 c] w fun e w' => e = .returned (.bool (Tx.seenB c)) ∧ w' = w := by
  go_enter Tryz.func99, Tryz.ntmps99
  go_wp2
  all_goals
    go_ret
    refine ⟨ret_bool ?_, rfl⟩
    unfold Tx.seenB
    rw [Bool.eq_iff_iff]; simp; omega

set_option maxHeartbeats 400000 in
theorem isInner_any (c : Int) (w : World) :
    Calls Tryz.prog 65 #[.int .u8 c] w fun e w' => e = .returned (.bool (Tx.innerB c)) ∧ w' = w := by
  go_enter Tryz.func65, Tryz.ntmps65
  go_wp2_with (first | (go_at_call 64; refine (isLetter_any _ _).mono ?_; rintro e w' ⟨rfl, rfl⟩) | (go_at_call 96; refine (isDigit_any _ _).mono ?_; rintro e w' ⟨rfl, rfl⟩))
  all_goals
    go_ret
    refine ⟨ret_bool ?_, rfl⟩
    unfold Tx.innerB
    simp_all

set_option maxHeartbeats 400000 in
theorem letter_any (c : Int) (w : World) :
    Calls Tryz.prog 82 #[.int .u8 c] w fun e w' => e = .returned (.bool (Tx.letterB c)) ∧ w' = w := by
  go_enter Tryz.func82, Tryz.ntmps82
  go_wp2
  all_goals
    go_ret
    refine ⟨ret_bool ?_, rfl⟩
    unfold Tx.letterB
    rw [Bool.eq_iff_iff]; simp; omega

set_option maxHeartbeats 400000 in
theorem digit_any (c : Int) (w : World) :
    Calls Tryz.prog 84 #[.int .u8 c] w fun e w' => e = .returned (.bool (Tx.digitB c)) ∧ w' = w := by
  go_enter Tryz.func84, Tryz.ntmps84
  go_wp2
  all_goals
    go_ret
    refine ⟨ret_bool ?_, rfl⟩
    unfold Tx.digitB
    rw [Bool.eq_iff_iff]; simp; omega
theorem ret_int {a b : Int} (h : a = b) : Ending.returned (.int .i64 a) = .returned (.int .i64 b) := by rw [h]

set_option maxHeartbeats 400000 in
theorem partsOf_any (c : Int) (w : World) :
    Calls Tryz.prog 63 #[.int .u8 c] w fun e w' => e = .returned (.int .i64 (Tp.ar c)) ∧ w' = w := by
  go_enter Tryz.func63, Tryz.ntmps63
  go_wp2
  all_goals
    go_ret
    refine ⟨ret_int ?_, rfl⟩
    unfold Tp.ar
    simp_all
theorem grownBy_refl (w : World) (r : Option Nat) : w.grownBy w r := ⟨rfl, rfl, rfl, Nat.le_refl _, fun _ _ _ => rfl⟩
theorem grownBy_drewN {w w' : World} {r : Option Nat} (h : w.grownBy w' r) (n : Nat) : w.grownBy (w'.drewN n) r := ⟨h.os, h.tape, h.output, h.size, h.block⟩
theorem grownBy_drew {w w' : World} {r : Option Nat} (h : w.grownBy w' r) : w.grownBy w'.drew r := ⟨h.os, h.tape, h.output, h.size, h.block⟩
theorem grownBy_trans {a b c : World} {r : Option Nat} (h : a.grownBy b r) (k : b.grownBy c r) : a.grownBy c r :=
  ⟨k.os.trans h.os, k.tape.trans h.tape, k.output.trans h.output, Nat.le_trans h.size k.size, fun i hi hne => (k.block i (Nat.lt_of_lt_of_le hi h.size) hne).trans (h.block i hi hne)⟩
theorem grownBy_set {a b : World} {rb o : Nat} (h : a.grownBy b (some rb)) (u : Value) : a.grownBy (b.setCell ⟨rb, o, none⟩ u) (some rb) :=
  grownBy_trans h ⟨rfl, rfl, rfl, by simp [World.setCell], fun k hk hne => Below.heap_setCell _ _ _ _ (by intro e; exact hne (by rw [e]))⟩
theorem grownBy_cell {a b : World} {rb : Nat} (h : a.grownBy b (some rb)) {p : Nat} {o : Nat} {v : Value} (hne : p ≠ rb) (hc : a.cell? ⟨p, o, none⟩ = some v) : b.cell? ⟨p, o, none⟩ = some v :=
  h.cell hc (by simpa using hne)
theorem grownBy_alloc_pre {w w' : World} {o : Obj} {r : Option Nat} (h : (w.alloc o).grownBy w' r) : w.grownBy w' r :=
  ⟨h.os, h.tape, h.output, by have := h.size; simp at this; omega, fun k hk hne => (h.block k (by simp; omega) hne).trans (Below.heap_alloc _ _ _ hk)⟩
theorem grownBy_alloc {w w' : World} {r : Option Nat} (h : w.grownBy w' r) (o : Obj) : w.grownBy (w'.alloc o) r :=
  ⟨h.os, h.tape, h.output, by have := h.size; simp; omega, fun k hk hne => (Below.heap_alloc _ _ _ (by have := h.size; omega)).trans (h.block k hk hne)⟩
theorem grownBy_high {w w1 W : World} {rb : Nat} {row : Option Nat} (h1 : w.grownBy w1 (some rb)) (hg : w1.grownBy W row) (hr : ∀ x, row = some x → w.heap.size ≤ x) : w.grownBy W (some rb) :=
  ⟨hg.os.trans h1.os, hg.tape.trans h1.tape, hg.output.trans h1.output, Nat.le_trans h1.size hg.size, fun k hk hne =>
    (hg.block k (Nat.lt_of_lt_of_le hk h1.size) (fun e => by have := hr k e.symm; omega)).trans (h1.block k hk hne)⟩
/-- What stands below stands, but for one block. -/
theorem grownBy_below {w w1 W : World} {rb : Nat} (h1 : w.grownBy w1 (some rb)) (hB : Below w1.heap.size w1 W) : w.grownBy W (some rb) := by
  refine grownBy_trans h1 ⟨hB.os, hB.tape, hB.output, hB.size, fun k hk _ => hB.block k hk⟩

theorem block_cells {w : World} {g : Nat} {C : Array Value} {t : TypeId} (h : w.heap[g]? = some (.cells C t (0, 0))) : (∀ o, w.cell? ⟨g, o, none⟩ = C[o]?) ∧ ∀ o, w.frozen? ⟨g, o, none⟩ = false := by
  refine ⟨fun o => ?_, fun o => ?_⟩
  · simp [World.cell?, h]
  · simp [World.frozen?, h]
theorem cells_list_new (w : World) (xs : List Value) (t : TypeId) : ∀ j u, xs[j]? = some u → (w.alloc (.cells xs.toArray t)).cell? ((⟨w.heap.size, 0, none⟩ : Addr).add j) = some u := by
  intro j u hj
  have hb := (block_cells (heap_alloc_new w (.cells xs.toArray t))).1 j
  rw [List.getElem?_toArray, hj] at hb
  by_cases h0 : j = 0
  · subst h0; simpa [Addr.add] using hb
  · simpa [Addr.add, h0] using hb
theorem own_lit (w : World) (xs : List Value) (e : TypeId) (hm : xs.length ≤ maxLen) : (w.alloc (.cells xs.toArray e)).ownsRow w.heap.size e 1 (.slice (some ⟨w.heap.size, 0, none⟩) xs.length xs.length) xs.length xs :=
  ⟨by simp, .inr ⟨w.heap.size, xs.length, xs.toArray, rfl, Nat.le_refl _, heap_alloc_new _ _, Nat.le_refl _, hm, by simp, by simp⟩⟩
theorem own_nil (w : World) (base : Nat) (e : TypeId) (sz : Nat) : w.ownsRow base e sz (.slice none 0 0) 0 [] := ⟨by simp, .inl ⟨rfl, rfl⟩⟩
theorem own_len {W : World} {base e size n : Nat} {v : Value} {xs : List Value} (h : W.ownsRow base e size v n xs) : ∃ a c, v = .slice a n c := by
  obtain ⟨_, ⟨rfl, rfl⟩ | ⟨g, cap, cur, rfl, _⟩⟩ := h
  · exact ⟨none, 0, rfl⟩
  · exact ⟨some ⟨g, 0, none⟩, cap, rfl⟩
/-- The cells of a row that the call owns. -/
theorem own_cells {W : World} {base e size n : Nat} {v : Value} {xs : List Value} (h : W.ownsRow base e size v n xs) (hn : 0 < n) : ∃ g cap, v = .slice (some ⟨g, 0, none⟩) n cap ∧ n ≤ cap ∧ base ≤ g ∧ ∀ j, j < n * size → W.cell? ⟨g, j, none⟩ = xs[j]? := by
  obtain ⟨h1, ⟨rfl, h0⟩ | ⟨g, cap, cur, rfl, hg, hh, hc, _, hs, ht⟩⟩ := h
  · omega
  · refine ⟨g, cap, rfl, hc, hg, fun j hj => ?_⟩
    rw [← ht, List.getElem?_take, if_pos hj, Array.getElem?_toList]
    simp [World.cell?, hh]

/-- A text of these bytes. -/
def S (l : List UInt8) : ByteArray := ⟨l.toArray⟩
theorem S_list (l : List UInt8) : (S l).data.toList = l := rfl
theorem S_size (l : List UInt8) : (S l).size = l.length := by simp [S, ByteArray.size]
theorem S_of (s : ByteArray) : s = S s.data.toList := rfl
theorem S_cut (l : List UInt8) (a b : Nat) : (S l).extract a b = S ((l.drop a).take (b - a)) := by
  apply ByteArray.ext
  simp [S, ByteArray.data_extract]
/-- A row of texts. -/
def tcells (ls : List (List UInt8)) : List Value := ls.map (fun l => .string (S l))
theorem tcells_append (a b : List (List UInt8)) : tcells (a ++ b) = tcells a ++ tcells b := by simp [tcells]
theorem tcells_one (l : List (List UInt8)) : ∀ u ∈ tcells l, u.oneCell' = true := by
  intro u hu
  unfold tcells at hu
  obtain ⟨c, _, rfl⟩ := List.mem_map.1 hu
  rfl
theorem info9 : (Tryz.prog.info? 9).map (fun i => (i.zero, i.size, i.bytes)) = some (some (.string ⟨#[]⟩), 1, 16) := by kernel_rfl
theorem tyTexts : Tryz.prog.underlying 23 = some (.slice 9) := by kernel_rfl
theorem info5 : (Tryz.prog.info? 5).map (fun i => (i.zero, i.size, i.bytes)) = some (some (.int .u8 0), 1, 1) := by kernel_rfl
theorem tyBytes : Tryz.prog.underlying 103 = some (.slice 5) := by kernel_rfl
theorem info3 : (Tryz.prog.info? 3).map (fun i => (i.zero, i.size, i.bytes)) = some (some (.int .i64 0), 1, 8) := by kernel_rfl
theorem tyInts : Tryz.prog.underlying 93 = some (.slice 3) := by kernel_rfl
theorem str_len (s : ByteArray) : s.data.toList.length = s.size := by rw [Array.length_toList]; rfl
theorem str_B (s : ByteArray) (k : Nat) (h : k < s.size) : ((s[k]'h).toNat : Int) = Tx.B s.data.toList k := by
  unfold Tx.B
  have h' : k < s.data.toList.length := by simpa using h
  rw [List.getElem?_eq_getElem h']
  rfl
end Go.Proofs.YthihnkgjkmaplaaGreatDoor
namespace Go.Proofs.YthihnkgjkmaplaaGreatDoor
open Go.RowKit Go.Maps
open Go.WideMaps Go.WideElems
set_option maxRecDepth 100000


/-- 'insert' (a map's literal) at the operation: as a store into the call's own map. -/
theorem wpList_insert_own {H : Type} {P : Program} (w : World) {ops : Array Oper} {rest : List Oper} {o : Oper} {a : Act} {Q : Exit → Act → World → Prop}
    (hg : o.guard = none) (m x v : Operand) (t : TypeId) (hop : o.op = Op.insert t m x v)
    (k e : TypeId) (K : Keyed P k) (ht : P.underlying t = some (.map k e)) (R : Value → Option (DataW H × List MemPlace)) (b n : Nat) (D : DataW H)
    (hm : a.eval m = .map (some b)) (hown : w.ownsMap P k R b n D) (hn : n < maxLen) (key val : Value) (kl : Lit) (hx : a.eval x = key) (hv : a.eval v = val) (hkey : keyOf P k key = some kl)
    (d : DataW H) (ps : List MemPlace) (hval : R val = some (d, ps))
    (hK : ∀ w', w'.ownsMap P k R b (n + 1) (D.put kl d) → w.grownBy w' (some b) → wpList P ops Q rest (a.put o.dst undef) w') :
    wpList P ops Q (o :: rest) a w := by
  refine wpList_plain hg fun K' hK' => ?_
  obtain ⟨w', hrun, r1, r2⟩ := hown.update K ht hn hkey hval
  unfold Oper.wp
  simp [execOp, hop, hm, hx, hv, hrun, Result.andThen]
  exact hK' _ _ (hK w' r1 r2)

/-- Block b of w is a map that has 1 at the texts ws, and 0 elsewhere; at most n of them; below B nothing has turned since w0. -/
def WM (w0 w : World) (b n : Nat) (ws : List (List UInt8)) : Prop :=
  ∃ D : DataW Unit, w.ownsMap Tryz.prog 9 (plainElem Tryz.prog 60) b n D ∧ (∀ l, D.atKey (.string l) (.lit (.int .i8 0)) = .lit (.int .i8 (if ws.contains l then 1 else 0))) ∧ Below b w0 w

theorem ty9 : Tryz.prog.underlying 9 = some .string := by kernel_rfl
theorem tyI8 : Tryz.prog.underlying 60 = some (.int .i8) := by kernel_rfl
theorem tyWords : Tryz.prog.underlying 166 = some (.map 9 60) := by kernel_rfl
theorem kzI8 (w : World) : (zeroValue 60).run Tryz.prog w = .ok (.int .i8 0) w := by kernel_rfl
theorem keyed9 : Keyed Tryz.prog 9 := string_keyed ty9

theorem WM_put {w0 w : World} {b n : Nat} {ws : List (List UInt8)} (u : List UInt8) {w' : World} {D : DataW Unit}
    (hD : w.ownsMap Tryz.prog 9 (plainElem Tryz.prog 60) b n D) (hat : ∀ l, D.atKey (.string l) (.lit (.int .i8 0)) = .lit (.int .i8 (if ws.contains l then 1 else 0))) (hB : Below b w0 w)
    (h1 : w'.ownsMap Tryz.prog 9 (plainElem Tryz.prog 60) b (n + 1) (D.put (.string u) (.lit (.int .i8 1)))) (h2 : w.grownBy w' (some b)) : WM w0 w' b (n + 1) (ws ++ [u]) := by
  refine ⟨_, h1, fun l => ?_, hB.grown h2 (Nat.le_of_lt hD.lt) (fun k e => by cases e; exact Nat.le_refl _)⟩
  by_cases e : l = u
  · subst e
    rw [atKey_put_same hD.isMap (by trivial)]
    simp
  · rw [atKey_put_other (by intro h; cases h; exact e rfl), hat]
    simp [e]

/-- One word more. -/
theorem wpList_insert_word (w0 w : World) {ops : Array Oper} {rest : List Oper} {o : Oper} {a : Act} {Q : Exit → Act → World → Prop}
    (hg : o.guard = none) (m x v : Operand) (hop : o.op = Op.insert 166 m x v) (b n : Nat) (ws : List (List UInt8)) (hm : a.eval m = .map (some b)) (hown : WM w0 w b n ws) (hn : n < 100) (u : ByteArray)
    (hx : a.eval x = .string u) (hu : u.size ≤ 100) (hv : a.eval v = .int .i8 1)
    (hK : ∀ w', WM w0 w' b (n + 1) (ws ++ [u.data.toList]) → wpList Tryz.prog ops Q rest (a.put o.dst undef) w') :
    wpList Tryz.prog ops Q (o :: rest) a w := by
  obtain ⟨D, hD, hat, hB⟩ := hown
  refine wpList_insert_own w hg m x v 166 hop 9 60 keyed9 tyWords (plainElem Tryz.prog 60) b n D hm hD (by unfold maxLen; omega) _ _ (.string u.data.toList) hx hv (keyOf_string_mk ty9 (by unfold maxLen; omega)) (.lit (.int .i8 1)) [] (plainElem_int tyI8 (by decide)) ?_
  intro w' h1 h2
  exact hK w' (WM_put u.data.toList hD hat hB h1 h2)

set_option maxHeartbeats 4000000 in
set_option maxRecDepth 100000 in
theorem wordKinds_any (w : World) :
    Calls Tryz.prog 97 #[] w fun e w' => e = .returned (.map (some w.heap.size)) ∧ WM w w' w.heap.size 23 Tx.words := by
  have hmm := @run_makeMap Tryz.prog
  have h0 : WM w (w.alloc (.map #[] 0)) w.heap.size 0 [] := ⟨.map [], World.ownsMap_made w _ _ _, fun l => rfl, (Below.refl _ _).alloc (Nat.le_refl _) _⟩
  go_enter Tryz.func97, Tryz.ntmps97
  go_wp2_with (refine wpList_insert_word w _ rfl _ _ _ rfl w.heap.size _ _ rfl (by assumption) (by decide) _ rfl (by decide) rfl ?_; intro w' hw')
  go_ret
  exact ⟨rfl, hw'⟩

/-- Block b of w is the map of words. -/
def IsWords (w : World) (b : Nat) : Prop := ∃ (D : DataW Unit) (n : Nat), w.ownsMap Tryz.prog 9 (plainElem Tryz.prog 60) b n D ∧ (∀ l, D.atKey (.string l) (.lit (.int .i8 0)) = .lit (.int .i8 (if Tx.wordB l then 1 else 0)))

theorem IsWords.of {w0 w : World} {b : Nat} (h : WM w0 w b 23 Tx.words) : IsWords w b := by
  obtain ⟨D, h1, h2, _⟩ := h
  exact ⟨D, 23, h1, h2⟩
theorem IsWords.lt {w : World} {b : Nat} (h : IsWords w b) : b < w.heap.size := by
  obtain ⟨D, n, h1, _⟩ := h
  exact h1.lt
theorem IsWords.kept {w w' : World} {b : Nat} {row : Option Nat} (h : IsWords w b) (hg : w.grownBy w' row) (hne : some b ≠ row) : IsWords w' b := by
  obtain ⟨D, n, h1, h2⟩ := h
  exact ⟨D, n, h1.kept hg hne, h2⟩
theorem IsWords.look {w : World} {b : Nat} (h : IsWords w b) (s : ByteArray) (hs : s.size ≤ maxLen) :
    (Instr.lookup 166 (.map (some b)) (.string s) false).run Tryz.prog w = .ok (.int .i8 (if Tx.wordB s.data.toList then 1 else 0)) w := by
  obtain ⟨D, n, h1, h2⟩ := h
  obtain ⟨c, hrun, hat, _⟩ := h1.lookup_int keyed9 tyWords tyI8 (kzI8 w) (key := .string s) (kl := .string s.data.toList) (keyOf_string_mk ty9 hs)
  rw [h2] at hat
  rw [hrun]
  cases hat
  rfl


/-- May this text name a thing? -/
def nameB (l : List UInt8) : Bool := decide (0 < l.length) && decide (l.length ≤ 32) && Tx.letterB (Tx.B l 0) && (Tx.upTo Tx.innerB l 0 == l.length) && !Tx.wordB l

theorem nameB_len {l : List UInt8} (h : ¬ (0 < l.length ∧ l.length ≤ 32)) : nameB l = false := by
  unfold nameB
  by_cases h1 : 0 < l.length
  · have h2 : ¬ l.length ≤ 32 := fun h2 => h ⟨h1, h2⟩
    simp [h2]
  · simp [h1]
theorem nameB_first {l : List UInt8} (h : Tx.letterB (Tx.B l 0) = false) : nameB l = false := by simp [nameB, h]
theorem nameB_in {l : List UInt8} (h : Tx.upTo Tx.innerB l 0 ≠ l.length) : nameB l = false := by simp [nameB, h]
theorem nameB_is {l : List UInt8} (h1 : 0 < l.length) (h2 : l.length ≤ 32) (h3 : Tx.letterB (Tx.B l 0) = true) (h4 : Tx.upTo Tx.innerB l 0 = l.length) : nameB l = !Tx.wordB l := by simp [nameB, h1, h2, h3, h4]

set_option maxHeartbeats 400000 in
theorem isWord_any (s : ByteArray) (hs : s.size ≤ maxLen) (w : World) :
    Calls Tryz.prog 66 #[.string s] w fun e w' => e = .returned (.bool (Tx.wordB s.data.toList)) ∧ Below w.heap.size w w' := by
  go_enter Tryz.func66, Tryz.ntmps66
  go_wp2_with fail
  refine (wordKinds_any _).mono ?_
  rintro e w1 ⟨rfl, hW⟩
  have hlk := (IsWords.of hW).look s hs
  have hB : Below w.heap.size w w1 := by obtain ⟨_, _, _, h⟩ := hW; exact h
  clear hW
  cases hb : Tx.wordB s.data.toList
  all_goals
    rw [hb] at hlk
    have HB : Aside (Tx.wordB s.data.toList = _) := hb
    clear hb
    go_wp2_with fail
    go_ret
    rw [HB.out]
    exact ⟨rfl, hB⟩

set_option maxHeartbeats 1000000 in
theorem isName_any (s : ByteArray) (hs : s.size ≤ maxLen) (w : World) :
    Calls Tryz.prog 49 #[.string s] w fun e w' => e = .returned (.bool (nameB s.data.toList)) ∧ Below w.heap.size w w' := by
  have hsl := str_len s
  have hml : s.size ≤ 9223372036854775807 := by unfold maxLen at hs; omega
  by_cases h0 : s.size = 0
  · have HN : Aside (nameB s.data.toList = false) := nameB_len (by omega)
    have he : s.toList.isEmpty = true := by rw [ByteArray.toList_eq]; exact List.isEmpty_iff.2 (List.length_eq_zero_iff.1 (hsl.trans h0))
    clear hsl
    go_enter Tryz.func49, Tryz.ntmps49
    go_wp2_with fail
    go_ret
    rw [HN.out]
    exact ⟨rfl, Below.refl _ _⟩
  have he : s.toList.isEmpty = false := by
    rw [ByteArray.toList_eq]
    cases hd : s.data.toList with
    | nil => rw [hd] at hsl; simp at hsl; omega
    | cons _ _ => rfl
  by_cases h32 : 32 < s.size
  · have HN : Aside (nameB s.data.toList = false) := nameB_len (by omega)
    have h32' : (32 : Int) < (s.size : Int) := by omega
    clear hsl h0
    go_enter Tryz.func49, Tryz.ntmps49
    go_wp2_with fail
    go_ret
    rw [HN.out]
    exact ⟨rfl, Below.refl _ _⟩
  have h32' : decide ((32 : Int) < (s.size : Int)) = false := by simp; omega
  have hpos : 0 < s.size := by omega
  have hB0 := str_B s 0 hpos
  by_cases hlt : Tx.letterB (Tx.B s.data.toList 0) = true
  · have hsl32 : s.size ≤ 32 := by omega
    have HL : Aside (s.data.toList.length = s.size) := hsl
    clear hsl h0 h32
    go_enter Tryz.func49, Tryz.ntmps49
    go_wp2_with (go_at_call 64; refine (isLetter_any _ _).mono ?_; rintro e w' ⟨rfl, hw'⟩; replace hw' := hw'.symm; subst hw')
    go_loopg [19] s.size (fun g t wr => wr = w ∧ ∃ k : Nat, k + g = s.size ∧ t = .int .i64 k ∧ Aside (Tx.upTo Tx.innerB s.data.toList 0 = Tx.upTo Tx.innerB s.data.toList k))
    case atStart => exact ⟨rfl, 0, by omega, rfl, rfl⟩
    case round =>
      obtain ⟨rfl, k, hkg, rfl, HK⟩ := hrel
      by_cases hk : k < s.size
      · have hk' : (k : Int) < (s.size : Int) := by omega
        have hBk := str_B s k hk
        have hk0 : (0 : Int) ≤ (k : Int) := by omega
        by_cases hin : Tx.innerB (Tx.B s.data.toList k) = true
        · have HS : Aside (Tx.upTo Tx.innerB s.data.toList k = Tx.upTo Tx.innerB s.data.toList (k + 1)) := Tx.upTo_in (by rw [HL.out]; exact hk) hin
          go_wp2_with (go_at_call 65; refine (isInner_any _ _).mono ?_; rintro e w' ⟨rfl, rfl⟩)
          go_roundg (gk - 1)
          case measure => omega
          case rel => exact ⟨rfl, k + 1, by omega, by go_num, HK.out.trans HS.out⟩
        · have hin' : Tx.innerB (Tx.B s.data.toList k) = false := by simpa using hin
          have HN : Aside (nameB s.data.toList = false) := nameB_in (by rw [HK.out, Tx.upTo_out (by rw [HL.out]; exact hk) hin', HL.out]; omega)
          clear hin
          go_wp2_with (go_at_call 65; refine (isInner_any _ _).mono ?_; rintro e w' ⟨rfl, rfl⟩)
          go_ret
          rw [HN.out]
          exact ⟨rfl, Below.refl _ _⟩
      · have hk' : ¬ (k : Int) < (s.size : Int) := by omega
        have HN : Aside (nameB s.data.toList = !Tx.wordB s.data.toList) := nameB_is (by rw [HL.out]; exact hpos) (by rw [HL.out]; exact hsl32) hlt (by rw [HK.out, Tx.upTo_end (by rw [HL.out]; omega), HL.out]; omega)
        go_wp2_with (go_at_call 66; refine (isWord_any _ hs _).mono ?_; rintro e w' ⟨rfl, hB⟩)
        go_ret
        rw [HN.out]
        exact ⟨rfl, hB⟩
  · have hlt' : Tx.letterB (Tx.B s.data.toList 0) = false := by simpa using hlt
    have HN : Aside (nameB s.data.toList = false) := nameB_first hlt'
    clear hsl h0 h32 hlt
    go_enter Tryz.func49, Tryz.ntmps49
    go_wp2_with (go_at_call 64; refine (isLetter_any _ _).mono ?_; rintro e w' ⟨rfl, hw'⟩; replace hw' := hw'.symm; subst hw')
    go_ret
    rw [HN.out]
    exact ⟨rfl, Below.refl _ _⟩
end Go.Proofs.YthihnkgjkmaplaaGreatDoor
