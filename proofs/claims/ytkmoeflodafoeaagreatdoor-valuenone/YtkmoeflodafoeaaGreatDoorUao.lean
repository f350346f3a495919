/- Package value: what a cast asks first: castError. -/
import Derived.Test.YtkmoeflodafoeaaGreatDoorUam
import Derived.Test.YtkmoeflodafoeaaGreatDoorUan
import Derived.Deep.AppendLies
namespace Go.Proofs.YtkmoeflodafoeaaGreatDoor.Vl
open Go.RowKit
open T3.Tp (Ty)
set_option maxRecDepth 100000
set_option linter.unusedSimpArgs false
set_option linter.unusedVariables false
theorem ret_bv {a b : Bool} (h : a = b) : Ending.returned (.bool a) = .returned (.bool b) := by rw [h]
theorem ret_iv {a b : Int} (h : a = b) : Ending.returned (.int .i64 a) = .returned (.int .i64 b) := by rw [h]
theorem below_dv {b : Nat} {w w' : World} (h : Below b w w') (n : Nat) : Below b w (w'.drewN n) := ⟨h.os, h.tape, h.output, h.size, h.block⟩
theorem al_bv (w : World) (o : Obj) : Below w.heap.size w (w.alloc o) := (Below.refl _ _).alloc (Nat.le_refl _) _
/-- A type's text. -/
abbrev tx (t : Ty) : ByteArray := T3.S (T3.Tp.enc t)
def good (s : ByteArray) : Bool := (T3.Tp.chk s.data.toList).1 == 0
theorem good_tx (t : Ty) (h : (T3.Tp.enc t).length ≤ 64) : good (tx t) = true := by
  unfold good
  rw [T3.S_list, T3.Tp.chk_enc t h]
  rfl
set_option maxHeartbeats 400000 in
theorem isTypeV_any (s : ByteArray) (w : World) : Calls Tryz.prog 132 #[.string s] w fun e w' => e = .returned (.bool (good s)) ∧ w' = w := by
  have hc := T3.check_any s w
  have hd : decide (((T3.Tp.chk s.data.toList).1 : Int) = 0) = good s := by unfold good; rw [Bool.eq_iff_iff]; simp
  generalize good s = G at *
  generalize (T3.Tp.chk s.data.toList).1 = c1 at *
  generalize (T3.Tp.chk s.data.toList).2 = c2 at *
  go_enter Tryz.func132, Tryz.ntmps132
  go_wp2_with (go_at_call 121; refine hc.mono ?_; rintro e w1 ⟨rfl, rfl⟩)
  go_ret
  exact ⟨ret_bv (by first | exact hd | simpa using hd), rfl⟩
set_option maxHeartbeats 400000 in
theorem isTypeC_any (s : ByteArray) (w : World) : Calls Tryz.prog 58 #[.string s] w fun e w' => e = .returned (.bool (good s)) ∧ w' = w := by
  have hc := T3.check_any s w
  have hd : decide (((T3.Tp.chk s.data.toList).1 : Int) = 0) = good s := by unfold good; rw [Bool.eq_iff_iff]; simp
  generalize good s = G at *
  generalize (T3.Tp.chk s.data.toList).1 = c1 at *
  generalize (T3.Tp.chk s.data.toList).2 = c2 at *
  go_enter Tryz.func58, Tryz.ntmps58
  go_wp2_with (go_at_call 121; refine hc.mono ?_; rintro e w1 ⟨rfl, rfl⟩)
  go_ret
  exact ⟨ret_bv (by first | exact hd | simpa using hd), rfl⟩
/-- Is it a label? -/
def lab (n : Int) : Bool := n != 0 && decide (-2147483647 ≤ n) && decide (n ≤ 2147483647)
set_option maxHeartbeats 400000 in
theorem isLabelV_any (n : Int) (w : World) : Calls Tryz.prog 60 #[.int .i64 n] w fun e w' => e = .returned (.bool (lab n)) ∧ w' = w := by
  go_enter Tryz.func60, Tryz.ntmps60
  go_wp2
  all_goals
    go_ret
    refine ⟨ret_bv ?_, rfl⟩
    unfold lab
    first
      | (simp_all; done)
      | (simp_all; omega)
set_option maxHeartbeats 400000 in
theorem size_q (w : World) : Calls Tryz.prog 61 #[.string ⟨#[63]⟩, .string ⟨#[63]⟩] w fun e w' => e = .returned (.int .u64 1) ∧ w' = w := by
  go_enter Tryz.func61, Tryz.ntmps61
  go_wp2
  go_ret
  exact ⟨rfl, rfl⟩
theorem tyCv : Tryz.prog.underlying 41 = some (.slice 29) := by kernel_rfl
theorem infoCv : (Tryz.prog.info? 29).map (fun i => (i.zero, i.size, i.bytes)) = some (some (.agg #[.int .i8 0, .int .i64 0, .bool false, .int .u8 0, .int .i64 0, .int .u8 0, .int .u8 0]), 7, 40) := by kernel_rfl
def anyC : List Value := [.int .i8 1, .int .i64 0, .bool false, .int .u8 0, .int .i64 0, .int .u8 0, .int .u8 0]
theorem ptr_block {w : World} {g : Nat} {cs : Array Value} {T : TypeId} (h : w.heap[g]? = some (.cells cs T (0, 0))) : (∀ o, w.cell? ⟨g, o, none⟩ = cs[o]?) ∧ (∀ o, w.frozen? ⟨g, o, none⟩ = false) ∧ g < w.heap.size :=
  ⟨fun o => by simp [World.cell?, h], fun o => by simp [World.frozen?, h], (Array.getElem?_eq_some_iff.1 h).1⟩
theorem cells_listv (w : World) (xs : List Value) (t : TypeId) : ∀ j u, xs[j]? = some u → (w.alloc (.cells xs.toArray t)).cell? ((⟨w.heap.size, 0, none⟩ : Addr).add j) = some u := by
  intro j u hj
  have hb := (ptr_block (heap_alloc_new w (.cells xs.toArray t))).1 j
  rw [List.getElem?_toArray, hj] at hb
  by_cases h0 : j = 0
  · subst h0; simpa [Addr.add] using hb
  · simpa [Addr.add, h0] using hb
set_option maxHeartbeats 800000 in
theorem lay_q (n : Int) (w0 w : World) (lv : Value) (hO : w.ownsRow w0.heap.size 29 7 lv 0 []) (hB : Below w0.heap.size w0 w) :
    Calls Tryz.prog 62 #[lv, .string ⟨#[63]⟩, .string ⟨#[63]⟩, .int .i64 n] w fun e w' => ∃ v, e = .returned v ∧ Below w0.heap.size w0 w' := by
  obtain ⟨i0, hi, hz0, hz1, hz2⟩ := info_parts infoCv
  go_enter Tryz.func62, Tryz.ntmps62
  go_wp2_with (at_builtin; go_must (refine wpList_append_lies _ rfl _ _ 41 rfl w0.heap.size 29 i0 _ 7 40 tyCv hi hz0 hz1 hz2 rfl (by decide) lv 0 [] rfl (hO.alloc _) ⟨w.heap.size, 0, none⟩ 1 1 anyC rfl rfl (cells_listv w anyC _) (by simp [anyC, Value.oneCell']) (by decide) (by unfold maxLen; omega) (by omega) (by have := hB.size; simp; omega) _ rfl ?_); intro g cap w2 hown2 hg2 hat2 hlt2)
  go_ret
  refine ⟨_, rfl, ((hB.alloc hB.size _)).grown hg2 (by have := hB.size; simp; omega) (fun q e => ?_)⟩
  exact (World.ownsRow.lt hO q e).1
theorem mk1 (w : World) : (Instr.makeSlice 41 (.int .i64 0) (.int .u64 1)).run Tryz.prog w = .ok (.slice (some ⟨w.heap.size, 0, none⟩) 0 1) (w.alloc (.cells #[.int .i8 0, .int .i64 0, .bool false, .int .u8 0, .int .i64 0, .int .u8 0, .int .u8 0] 29)) := by kernel_rfl
/-- coerce.Of of ? and ?: only the label is asked. -/
theorem Of_q (n : Int) (w : World) :
    Calls Tryz.prog 16 #[.string ⟨#[63]⟩, .string ⟨#[63]⟩, .int .i64 n] w fun e w' => ∃ v, e = .returned (.tuple #[v, .int .i64 (if lab n then 0 else 13)]) ∧ Below w.heap.size w w' := by
  have ci := isTypeC_any ⟨#[63]⟩
  rw [show good ⟨#[63]⟩ = true from good_tx .tq (by decide)] at ci
  have cc : ∀ W, Calls Tryz.prog 59 #[.string ⟨#[63]⟩, .string ⟨#[63]⟩] W fun e w' => e = .returned (.bool true) ∧ Below W.heap.size W w' := fun W => T3.consistent_yes .tq .tq (by decide) (by decide) W
  have cl := isLabelV_any n
  have cs := size_q
  have m1 := mk1
  have cy : ∀ W, Below w.heap.size w W → Calls Tryz.prog 62 #[.slice (some ⟨W.heap.size, 0, none⟩) 0 1, .string ⟨#[63]⟩, .string ⟨#[63]⟩, .int .i64 n] (W.alloc (.cells #[.int .i8 0, .int .i64 0, .bool false, .int .u8 0, .int .i64 0, .int .u8 0, .int .u8 0] 29)) fun e w' => ∃ v, e = .returned v ∧ Below w.heap.size w w' := fun W hW =>
    lay_q n w _ _ ⟨rfl, .inr ⟨W.heap.size, 1, _, rfl, hW.size, heap_alloc_new _ _, by decide, by decide, rfl, rfl⟩⟩ (hW.alloc hW.size _)
  cases hl : lab n
  · rw [hl] at cl
    go_enter Tryz.func16, Tryz.ntmps16
    go_wp2_with (first | (go_at_call 58; refine (ci _).mono ?_; rintro e w1 ⟨rfl, hw1⟩; replace hw1 := hw1.symm; subst hw1) | (go_at_call 59; refine (cc _).mono ?_; rintro e w3 ⟨rfl, hB3⟩) | (go_at_call 60; refine (cl _).mono ?_; rintro e w4 ⟨rfl, hw4⟩; replace hw4 := hw4.symm; subst hw4))
    go_ret2
    exact ⟨⟨_, rfl⟩, hB3⟩
  · rw [hl] at cl
    go_enter Tryz.func16, Tryz.ntmps16
    go_wp2_with (first | (go_at_call 58; refine (ci _).mono ?_; rintro e w1 ⟨rfl, hw1⟩; replace hw1 := hw1.symm; subst hw1) | (go_at_call 59; refine (cc _).mono ?_; rintro e w3 ⟨rfl, hB3⟩) | (go_at_call 60; refine (cl _).mono ?_; rintro e w4 ⟨rfl, hw4⟩; replace hw4 := hw4.symm; subst hw4) | (go_at_call 61; refine (cs _).mono ?_; rintro e w5 ⟨rfl, hw5⟩; replace hw5 := hw5.symm; subst hw5) | (go_at_call 62; refine (cy _ hB3).mono ?_; rintro e w6 ⟨v6, rfl, hB6⟩))
    go_ret2
    exact ⟨⟨_, rfl⟩, hB6⟩
/-- What a cast is refused by, ahead of all else. -/
def cErr (a b : Ty) (n : Int) : Int := if T3.Tp.cns a b = false then 23 else if lab n then 0 else 13
set_option maxHeartbeats 800000 in
theorem castError_yes (a b : Ty) (ha : (T3.Tp.enc a).length ≤ 64) (hb : (T3.Tp.enc b).length ≤ 64) (n : Int) (w : World) :
    Calls Tryz.prog 66 #[.string (tx a), .string (tx b), .int .i64 n] w fun e w' => e = .returned (.int .i64 (cErr a b n)) ∧ Below w.heap.size w w' := by
  have c1 := isTypeV_any (tx a)
  have c2 := isTypeV_any (tx b)
  rw [good_tx a ha] at c1
  rw [good_tx b hb] at c2
  have cc : ∀ W, Calls Tryz.prog 59 #[.string (tx a), .string (tx b)] W fun e w' => e = .returned (.bool (T3.Tp.cns a b)) ∧ Below W.heap.size W w' := T3.consistent_yes a b ha hb
  have co := Of_q n
  have HE : Aside (cErr a b n = if T3.Tp.cns a b = false then 23 else if lab n then 0 else 13) := rfl
  generalize cErr a b n = E at *
  generalize (if lab n then (0 : Int) else 13) = L at *
  generalize T3.Tp.cns a b = CB at *
  generalize tx a = s at *
  generalize tx b = t at *
  cases CB
  · go_enter Tryz.func66, Tryz.ntmps66
    go_wp2_with (first | (go_at_call 132; with_reducible refine (c1 _).mono ?_; rintro e w1 ⟨rfl, hw1⟩; replace hw1 := hw1.symm; subst hw1; clear c1) | (go_at_call 132; with_reducible refine (c2 _).mono ?_; rintro e w1 ⟨rfl, hw1⟩; replace hw1 := hw1.symm; subst hw1; clear c2) | (go_at_call 59; refine (cc _).mono ?_; rintro e w3 ⟨rfl, hB3⟩))
    go_ret
    exact ⟨ret_iv (by have := HE.out; simpa using this.symm), hB3⟩
  · go_enter Tryz.func66, Tryz.ntmps66
    go_wp2_with (first | (go_at_call 132; with_reducible refine (c1 _).mono ?_; rintro e w1 ⟨rfl, hw1⟩; replace hw1 := hw1.symm; subst hw1; clear c1) | (go_at_call 132; with_reducible refine (c2 _).mono ?_; rintro e w1 ⟨rfl, hw1⟩; replace hw1 := hw1.symm; subst hw1; clear c2) | (go_at_call 59; refine (cc _).mono ?_; rintro e w3 ⟨rfl, hB3⟩) | (go_at_call 16; refine (co _).mono ?_; rintro e w4 ⟨v4, rfl, hB4⟩))
    go_ret
    exact ⟨ret_iv (by have := HE.out; simpa using this.symm), hB3.trans (hB4.mono hB3.size)⟩
set_option maxHeartbeats 800000 in
theorem castError_no (s t : ByteArray) (h : good s = false) (n : Int) (w : World) :
    Calls Tryz.prog 66 #[.string s, .string t, .int .i64 n] w fun e w' => e = .returned (.int .i64 20) ∧ w' = w := by
  have c1 := isTypeV_any s
  rw [h] at c1
  go_enter Tryz.func66, Tryz.ntmps66
  go_wp2_with (go_at_call 132; refine (c1 _).mono ?_; rintro e w1 ⟨rfl, hw1⟩; replace hw1 := hw1.symm; subst hw1)
  go_ret
  exact ⟨rfl, rfl⟩
end Go.Proofs.YtkmoeflodafoeaaGreatDoor.Vl
