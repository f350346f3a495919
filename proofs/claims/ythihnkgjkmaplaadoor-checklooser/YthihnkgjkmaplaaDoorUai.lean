/- What the program's Meet and Join answer. What the program's and the document's questions about one byte answer; small facts on memory. -/
import Derived.Test.YthihnkgjkmaplaaDoorUah
import Derived.Test.YthihnkgjkmaplaaDoorRows
import Derived.Test.YthihnkgjkmaplaaDoorUaa
import Derived.WalkKit
import Derived.WalkSpells
import Derived.WalkLawsBesides
import Derived.Deep.LoopGhost
import Derived.Deep.QuietTactic
import Derived.BigQuiet
namespace Go.Proofs.YthihnkgjkmaplaaDoor.T3
set_option maxRecDepth 100000
open Go.RowKit

set_option maxHeartbeats 2000000 in
theorem merge_any (F : Nat) (sv : Tp.Ty → Tp.Ty → Tp.Ty) (sb : Tp.Ty → Tp.Ty → Bool) (M : Tp.Ty → Tp.Ty → Tp.Ty) (D : Tp.Ty → Tp.Ty → Prop) (hE : ∀ args w, (callFunc F args).run Tryd.prog w = .ok (.enter F args) w) (hF : Settle2 F sv sb) (hM : Merges sv sb M D) (a b : Tp.Ty) (hD : D a b) (ha : (Tp.enc a).length ≤ 64) (hb : (Tp.enc b).length ≤ 64) (w : World) :
    Calls Tryd.prog 90 #[.string (S (Tp.enc a)), .string (S (Tp.enc b)), .func (.func F) #[] #[]] w fun e w' => e = .returned (.tuple #[.string (S (Tp.val (M a b))), .int .i64 (Tp.merr (M a b))]) ∧ Below w.heap.size w w' := by
  have hP := put_any F sv sb M D hE hF hM 64 a b
  have e41 := enters99
  have hsf := store_func
  clear hF hM
  generalize S (Tp.enc a) = s at *
  generalize S (Tp.enc b) = t at *
  go_enter Tryd.func90, Tryd.ntmps90
  go_wp2_with fail
  refine (hP _ _ _ hD ha ha hb (by simp; try omega) (by simp; try omega) ?_ ?_).mono ?_
  · exact cell_old rfl (by simp) (cell_new rfl rfl)
  · exact cell_new rfl (by simp)
  rintro e w' ⟨rfl, hB⟩
  go_wp2_with fail
  go_ret2
  refine ⟨rfl, Below.trans ?_ (hB.mono (by simp; omega))⟩
  exact ((Below.refl _ _).alloc (Nat.le_refl _) _).alloc (by simp) _

theorem enters91 : ∀ args w, (callFunc 91 args).run Tryd.prog w = .ok (.enter 91 args) w := enters_of Tryd.func91 (by kernel_rfl) rfl
def msv (a b : Tp.Ty) : Tp.Ty := if Tp.isq a then b else a
theorem settle_meet : Settle2 91 msv (fun a b => Tp.isq a || Tp.isq b) := by
  intro a b w _ _
  have h := meet1_any a b w
  have e : (if Tp.isq a then S (Tp.enc b) else S (Tp.enc a)) = S (Tp.enc (msv a b)) := by unfold msv; split <;> rfl
  rw [e] at h
  exact h
theorem merges_meet : Merges msv (fun a b => Tp.isq a || Tp.isq b) Tp.met (fun a b => Tp.cns a b = true) := by
  refine ⟨?_, ?_, ?_, ?_, ?_⟩
  · intro a b h k; cases a <;> cases b <;> simp [Tp.isq, Tp.met, msv] at h k ⊢
  · intro a b h k; unfold msv; split <;> assumption
  · intro a b h k; cases a <;> cases b <;> simp [Tp.isq, Tp.met, Tp.cns, Tp.hd] at h k ⊢
  · intro a b h k; cases a <;> cases b <;> simp [Tp.isq, Tp.met, Tp.cns, Tp.kids] at h k ⊢
  · intro a b h k n x y hx hy
    cases a <;> cases b <;> simp [Tp.isq, Tp.cns, Tp.kids] at h k hx hy
    all_goals
      match n with
      | 0 => simp at hx hy; subst hx; subst hy; first | exact h.1 | exact h
      | 1 => simp at hx hy; try (subst hx; subst hy; exact h.2)
      | _ + 2 => simp at hx
def jsb (a b : Tp.Ty) : Bool := ((Tp.hd a).toNat : Int) != ((Tp.hd b).toNat : Int)
theorem jsb_false {a b : Tp.Ty} (h : jsb a b = false) : Tp.hd a = Tp.hd b := by
  unfold jsb at h
  simp only [bne_eq_false_iff_eq] at h
  exact UInt8.toNat_inj.1 (by omega)
theorem jsb_true {a b : Tp.Ty} (h : jsb a b = true) : Tp.hd a ≠ Tp.hd b := by
  unfold jsb at h
  intro e
  rw [e] at h
  simp at h
theorem merges_join : Merges (fun _ _ => .tq) jsb Tp.joi (fun _ _ => True) := by
  refine ⟨?_, ?_, ?_, ?_, ?_⟩
  · intro a b _ k; have := jsb_true k; cases a <;> cases b <;> simp [Tp.joi, Tp.hd] at this ⊢
  · intro a b h k; simp [Tp.enc]
  · intro a b _ k; have := jsb_false k; cases a <;> cases b <;> simp [Tp.joi, Tp.hd] at this ⊢
  · intro a b _ k; have := jsb_false k; cases a <;> cases b <;> simp [Tp.joi, Tp.hd, Tp.kids] at this ⊢
  · intros; trivial

set_option maxHeartbeats 2000000 in
theorem meet_bad (l m : List UInt8) (h : (Tp.chk l).1 ≠ 0 ∨ (Tp.chk m).1 ≠ 0) (w : World) :
    Calls Tryd.prog 79 #[.string (S l), .string (S m)] w fun e w' => e = .returned (.tuple #[.string ⟨#[]⟩, .int .i64 (Tp.firstBad [l, m])]) ∧ Below w.heap.size w w' := by
  have hb := bad2 h
  have hb' : ((Tp.firstBad [l, m] : Int) != 0) = true := by simpa using hb
  have hc := fun w => rcheck2 w l m
  generalize S l = s at *
  generalize S m = t at *
  go_enter Tryd.func79, Tryd.ntmps79
  go_wp2_with (go_at_call 34; refine (hc _ _ rfl _ (by simp)).mono ?_; rintro e w' ⟨rfl, rfl⟩)
  go_ret2
  exact ⟨rfl, below_alloc _ _⟩
/-- P3.2 of two types. -/
def mtS (a b : Tp.Ty) : List UInt8 := if Tp.cns a b then Tp.val (Tp.met a b) else []
def mtE (a b : Tp.Ty) : Nat := if Tp.cns a b then Tp.merr (Tp.met a b) else 30

set_option maxHeartbeats 2000000 in
theorem meet_yes (a b : Tp.Ty) (ha : (Tp.enc a).length ≤ 64) (hb : (Tp.enc b).length ≤ 64) (w : World) :
    Calls Tryd.prog 79 #[.string (S (Tp.enc a)), .string (S (Tp.enc b))] w fun e w' => e = .returned (.tuple #[.string (S (mtS a b)), .int .i64 (mtE a b)]) ∧ Below w.heap.size w w' := by
  have hg : Tp.firstBad [Tp.enc a, Tp.enc b] = 0 := good2 (by rw [Tp.chk_enc a ha]) (by rw [Tp.chk_enc b hb])
  have hc := fun w => rcheck2 w (Tp.enc a) (Tp.enc b)
  rw [hg] at hc
  have h2 := consistent_yes a b ha hb
  have h3 := fun h => merge_any 91 _ _ _ _ enters91 settle_meet merges_meet a b h ha hb
  generalize S (Tp.enc a) = s at *
  generalize S (Tp.enc b) = t at *
  cases hq : Tp.cns a b with
  | true =>
    have h3' := h3 hq
    have HM : Aside (mtS a b = Tp.val (Tp.met a b) ∧ mtE a b = Tp.merr (Tp.met a b)) := by show _ ∧ _; simp [mtS, mtE, hq]
    rw [hq] at h2
    clear h3
    go_enter Tryd.func79, Tryd.ntmps79
    go_wp2_with (first | (go_at_call 34; refine (hc _ _ rfl _ (by simp)).mono ?_; rintro e w' ⟨rfl, hw'⟩; replace hw' := hw'.symm; subst hw') | (go_at_call 69; refine (h2 _).mono ?_; rintro e w1 ⟨rfl, hB1⟩) | (go_at_call 90; refine (h3' _).mono ?_; rintro e w2 ⟨rfl, hB2⟩))
    go_ret2
    rw [HM.out.1, HM.out.2]
    exact ⟨rfl, (below_alloc _ _).trans ((hB1.mono (by simp)).trans (hB2.mono (by have := hB1.size; simp at this; omega)))⟩
  | false =>
    have HM : Aside (mtS a b = [] ∧ mtE a b = 30) := by show _ ∧ _; simp [mtS, mtE, hq]
    rw [hq] at h2
    clear h3
    go_enter Tryd.func79, Tryd.ntmps79
    go_wp2_with (first | (go_at_call 34; refine (hc _ _ rfl _ (by simp)).mono ?_; rintro e w' ⟨rfl, hw'⟩; replace hw' := hw'.symm; subst hw') | (go_at_call 69; refine (h2 _).mono ?_; rintro e w1 ⟨rfl, hB1⟩))
    go_ret2
    rw [HM.out.1, HM.out.2]
    exact ⟨rfl, (below_alloc _ _).trans (hB1.mono (by simp))⟩
end Go.Proofs.YthihnkgjkmaplaaDoor.T3
namespace Go.Proofs.YthihnkgjkmaplaaDoor
open Go.RowKit
set_option maxRecDepth 100000

theorem ret_bool {a b : Bool} (h : a = b) : Ending.returned (.bool a) = .returned (.bool b) := by rw [h]

set_option maxHeartbeats 400000 in
theorem isLetter_any (c : Int) (w : World) :
    Calls Tryd.prog 46 #[.int .u8 c] w fun e w' => e = .returned (.bool (Tx.letterB c)) ∧ w' = w := by
  go_enter Tryd.func46, Tryd.ntmps46
  go_wp2
  all_goals
    go_ret
    refine ⟨ret_bool ?_, rfl⟩
    unfold Tx.letterB
    rw [Bool.eq_iff_iff]; simp; omega

set_option maxHeartbeats 400000 in
theorem isDigit_any (c : Int) (w : World) :
    Calls Tryd.prog 65 #[.int .u8 c] w fun e w' => e = .returned (.bool (Tx.digitB c)) ∧ w' = w := by
  go_enter Tryd.func65, Tryd.ntmps65
  go_wp2
  all_goals
    go_ret
    refine ⟨ret_bool ?_, rfl⟩
    unfold Tx.digitB
    rw [Bool.eq_iff_iff]; simp; omega

set_option maxHeartbeats 400000 in
theorem isSeen_any (c : Int) (w : World) :
    Calls Tryd.prog 62 #[.int .u8 c] w fun e w' => e = .returned (.bool (Tx.seenB c)) ∧ w' = w := by
  go_enter Tryd.func62, Tryd.ntmps62
  go_wp2
  all_goals
    go_ret
    refine ⟨ret_bool ?_, rfl⟩
    unfold Tx.seenB
    rw [Bool.eq_iff_iff]; simp; omega

set_option maxHeartbeats 400000 in
theorem isInner_any (c : Int) (w : World) :
    Calls Tryd.prog 47 #[.int .u8 c] w fun e w' => e = .returned (.bool (Tx.innerB c)) ∧ w' = w := by
  go_enter Tryd.func47, Tryd.ntmps47
  go_wp2_with (first | (go_at_call 46; refine (isLetter_any _ _).mono ?_; rintro e w' ⟨rfl, rfl⟩) | (go_at_call 65; refine (isDigit_any _ _).mono ?_; rintro e w' ⟨rfl, rfl⟩))
  all_goals
    go_ret
    refine ⟨ret_bool ?_, rfl⟩
    unfold Tx.innerB
    simp_all

theorem ret_int {a b : Int} (h : a = b) : Ending.returned (.int .i64 a) = .returned (.int .i64 b) := by rw [h]

set_option maxHeartbeats 400000 in
theorem partsOf_any (c : Int) (w : World) :
    Calls Tryd.prog 45 #[.int .u8 c] w fun e w' => e = .returned (.int .i64 (Tp.ar c)) ∧ w' = w := by
  go_enter Tryd.func45, Tryd.ntmps45
  go_wp2
  all_goals
    go_ret
    refine ⟨ret_int ?_, rfl⟩
    unfold Tp.ar
    simp_all
theorem grownBy_refl (w : World) (r : Option Nat) : w.grownBy w r := ⟨rfl, rfl, rfl, Nat.le_refl _, fun _ _ _ => rfl⟩
theorem grownBy_drewN {w w' : World} {r : Option Nat} (h : w.grownBy w' r) (n : Nat) : w.grownBy (w'.drewN n) r := ⟨h.os, h.tape, h.output, h.size, h.block⟩
theorem grownBy_drew {w w' : World} {r : Option Nat} (h : w.grownBy w' r) : w.grownBy w'.drew r := ⟨h.os, h.tape, h.output, h.size, h.block⟩
theorem grownBy_trans {a b c : World} {r : Option Nat} (h : a.grownBy b r) (k : b.grownBy c r) : a.grownBy c r :=
  ⟨k.os.trans h.os, k.tape.trans h.tape, k.output.trans h.output, Nat.le_trans h.size k.size, fun i hi hne => (k.block i (Nat.lt_of_lt_of_le hi h.size) hne).trans (h.block i hi hne)⟩
theorem grownBy_set {a b : World} {rb o : Nat} (h : a.grownBy b (some rb)) (u : Value) : a.grownBy (b.setCell ⟨rb, o, none⟩ u) (some rb) :=
  grownBy_trans h ⟨rfl, rfl, rfl, by simp [World.setCell], fun k hk hne => Below.heap_setCell _ _ _ _ (by intro e; exact hne (by rw [e]))⟩
theorem grownBy_cell {a b : World} {rb : Nat} (h : a.grownBy b (some rb)) {p : Nat} {o : Nat} {v : Value} (hne : p ≠ rb) (hc : a.cell? ⟨p, o, none⟩ = some v) : b.cell? ⟨p, o, none⟩ = some v :=
  h.cell hc (by simpa using hne)
theorem grownBy_alloc_pre {w w' : World} {o : Obj} {r : Option Nat} (h : (w.alloc o).grownBy w' r) : w.grownBy w' r :=
  ⟨h.os, h.tape, h.output, by have := h.size; simp at this; omega, fun k hk hne => (h.block k (by simp; omega) hne).trans (Below.heap_alloc _ _ _ hk)⟩
theorem grownBy_alloc {w w' : World} {r : Option Nat} (h : w.grownBy w' r) (o : Obj) : w.grownBy (w'.alloc o) r :=
  ⟨h.os, h.tape, h.output, by have := h.size; simp; omega, fun k hk hne => (Below.heap_alloc _ _ _ (by have := h.size; omega)).trans (h.block k hk hne)⟩
theorem grownBy_high {w w1 W : World} {rb : Nat} {row : Option Nat} (h1 : w.grownBy w1 (some rb)) (hg : w1.grownBy W row) (hr : ∀ x, row = some x → w.heap.size ≤ x) : w.grownBy W (some rb) :=
  ⟨hg.os.trans h1.os, hg.tape.trans h1.tape, hg.output.trans h1.output, Nat.le_trans h1.size hg.size, fun k hk hne =>
    (hg.block k (Nat.lt_of_lt_of_le hk h1.size) (fun e => by have := hr k e.symm; omega)).trans (h1.block k hk hne)⟩
/-- What stands below stands, but for one block. -/
theorem grownBy_below {w w1 W : World} {rb : Nat} (h1 : w.grownBy w1 (some rb)) (hB : Below w1.heap.size w1 W) : w.grownBy W (some rb) := by
  refine grownBy_trans h1 ⟨hB.os, hB.tape, hB.output, hB.size, fun k hk _ => hB.block k hk⟩

theorem block_cells {w : World} {g : Nat} {C : Array Value} {t : TypeId} (h : w.heap[g]? = some (.cells C t (0, 0))) : (∀ o, w.cell? ⟨g, o, none⟩ = C[o]?) ∧ ∀ o, w.frozen? ⟨g, o, none⟩ = false := by
  refine ⟨fun o => ?_, fun o => ?_⟩
  · simp [World.cell?, h]
  · simp [World.frozen?, h]
theorem cells_list_new (w : World) (xs : List Value) (t : TypeId) : ∀ j u, xs[j]? = some u → (w.alloc (.cells xs.toArray t)).cell? ((⟨w.heap.size, 0, none⟩ : Addr).add j) = some u := by
  intro j u hj
  have hb := (block_cells (heap_alloc_new w (.cells xs.toArray t))).1 j
  rw [List.getElem?_toArray, hj] at hb
  by_cases h0 : j = 0
  · subst h0; simpa [Addr.add] using hb
  · simpa [Addr.add, h0] using hb
theorem own_lit (w : World) (xs : List Value) (e : TypeId) (hm : xs.length ≤ maxLen) : (w.alloc (.cells xs.toArray e)).ownsRow w.heap.size e 1 (.slice (some ⟨w.heap.size, 0, none⟩) xs.length xs.length) xs.length xs :=
  ⟨by simp, .inr ⟨w.heap.size, xs.length, xs.toArray, rfl, Nat.le_refl _, heap_alloc_new _ _, Nat.le_refl _, hm, by simp, by simp⟩⟩
theorem own_nil (w : World) (base : Nat) (e : TypeId) (sz : Nat) : w.ownsRow base e sz (.slice none 0 0) 0 [] := ⟨by simp, .inl ⟨rfl, rfl⟩⟩
theorem own_len {W : World} {base e size n : Nat} {v : Value} {xs : List Value} (h : W.ownsRow base e size v n xs) : ∃ a c, v = .slice a n c := by
  obtain ⟨_, ⟨rfl, rfl⟩ | ⟨g, cap, cur, rfl, _⟩⟩ := h
  · exact ⟨none, 0, rfl⟩
  · exact ⟨some ⟨g, 0, none⟩, cap, rfl⟩
/-- The cells of a row that the call owns. -/
theorem own_cells {W : World} {base e size n : Nat} {v : Value} {xs : List Value} (h : W.ownsRow base e size v n xs) (hn : 0 < n) : ∃ g cap, v = .slice (some ⟨g, 0, none⟩) n cap ∧ n ≤ cap ∧ base ≤ g ∧ ∀ j, j < n * size → W.cell? ⟨g, j, none⟩ = xs[j]? := by
  obtain ⟨h1, ⟨rfl, h0⟩ | ⟨g, cap, cur, rfl, hg, hh, hc, _, hs, ht⟩⟩ := h
  · omega
  · refine ⟨g, cap, rfl, hc, hg, fun j hj => ?_⟩
    rw [← ht, List.getElem?_take, if_pos hj, Array.getElem?_toList]
    simp [World.cell?, hh]

/-- A text of these bytes. -/
def S (l : List UInt8) : ByteArray := ⟨l.toArray⟩
theorem S_list (l : List UInt8) : (S l).data.toList = l := rfl
theorem S_size (l : List UInt8) : (S l).size = l.length := by simp [S, ByteArray.size]
theorem S_of (s : ByteArray) : s = S s.data.toList := rfl
theorem S_cut (l : List UInt8) (a b : Nat) : (S l).extract a b = S ((l.drop a).take (b - a)) := by
  apply ByteArray.ext
  simp [S, ByteArray.data_extract]
/-- A row of texts. -/
def tcells (ls : List (List UInt8)) : List Value := ls.map (fun l => .string (S l))
theorem tcells_append (a b : List (List UInt8)) : tcells (a ++ b) = tcells a ++ tcells b := by simp [tcells]
theorem tcells_one (l : List (List UInt8)) : ∀ u ∈ tcells l, u.oneCell' = true := by
  intro u hu
  unfold tcells at hu
  obtain ⟨c, _, rfl⟩ := List.mem_map.1 hu
  rfl
theorem info9 : (Tryd.prog.info? 9).map (fun i => (i.zero, i.size, i.bytes)) = some (some (.string ⟨#[]⟩), 1, 16) := by kernel_rfl
theorem tyTexts : Tryd.prog.underlying 23 = some (.slice 9) := by kernel_rfl
theorem info5 : (Tryd.prog.info? 5).map (fun i => (i.zero, i.size, i.bytes)) = some (some (.int .u8 0), 1, 1) := by kernel_rfl
theorem tyBytes : Tryd.prog.underlying 103 = some (.slice 5) := by kernel_rfl
theorem info3 : (Tryd.prog.info? 3).map (fun i => (i.zero, i.size, i.bytes)) = some (some (.int .i64 0), 1, 8) := by kernel_rfl
theorem tyInts : Tryd.prog.underlying 71 = some (.slice 3) := by kernel_rfl
theorem str_len (s : ByteArray) : s.data.toList.length = s.size := by rw [Array.length_toList]; rfl
theorem str_B (s : ByteArray) (k : Nat) (h : k < s.size) : ((s[k]'h).toNat : Int) = Tx.B s.data.toList k := by
  unfold Tx.B
  have h' : k < s.data.toList.length := by simpa using h
  rw [List.getElem?_eq_getElem h']
  rfl
end Go.Proofs.YthihnkgjkmaplaaDoor
