/- The document's trees: small questions. -/
import Derived.Test.YtaaokecdmbmgbaaGreatDoorUba
import Derived.Test.YtaaokecdmbmgbaaGreatDoorUaj
namespace Go.Proofs.YtaaokecdmbmgbaaGreatDoor
open Go.RowKit Cc
set_option maxRecDepth 100000
set_option linter.unusedSimpArgs false
set_option linter.unusedVariables false
namespace Cc
def npD (c : Int) : Int := if c = 62 ∨ c = 44 then 2 else if c = 108 ∨ c = 120 then 1 else 0
/-- A tree of the document: its node, its kids. -/
abbrev tree (x : N) (kv : Value) : Value := .agg #[.int .i8 x.op, .int .i64 x.proj, .bool x.inj, .int .u8 x.head, .int .i64 x.label, .int .u8 x.frm, .int .u8 x.tto, kv]
def trn (op i : Int) : Bool := (decide (op = 3) && decide (i = 0)) || (decide (op = 6) && decide (i = 1))
end Cc
set_option maxHeartbeats 400000 in
theorem dparts_any (c : Int) (w : World) :
    Calls Tryz.prog 86 #[.int .u8 c] w fun e w' => e = .returned (.int .i64 (npD c)) ∧ w' = w := by
  go_enter Tryz.func86, Tryz.ntmps86
  go_wp2
  all_goals
    go_ret
    refine ⟨ret_i64 ?_, rfl⟩
    unfold npD
    simp_all
set_option maxHeartbeats 800000 in
theorem dkids_any (x : N) (s : Sh) (hc : cls x = some s) (w : World) :
    Calls Tryz.prog 61 #[.agg #[.int .i8 x.op, .int .i64 x.proj, .bool x.inj, .int .u8 x.head, .int .i64 x.label, .int .u8 x.frm, .int .u8 x.tto]] w fun e w' => e = .returned (.int .i64 (nk s)) ∧ Below w.heap.size w w' := by
  have hA : ∀ o, Below w.heap.size w (w.alloc o) := fun o => (Below.refl _ _).alloc (Nat.le_refl _) _
  obtain ⟨rfl, ho⟩ := cls_of hc
  have cp := dparts_any
  clear hc
  cases s with
  | any =>
    go_enter Tryz.func61, Tryz.ntmps61
    simp only [shN]
    go_wp2
    go_ret
    exact ⟨rfl, hA _⟩
  | fl p h l t =>
    go_enter Tryz.func61, Tryz.ntmps61
    simp only [shN]
    go_wp2
    go_ret
    exact ⟨rfl, hA _⟩
  | bs p j h =>
    have cp' : ∀ W, Calls Tryz.prog 86 #[.int .u8 (hB h)] W fun e w' => e = .returned (.int .i64 0) ∧ w' = W := fun W => by
      have := cp (hB h) W
      rwa [show npD (hB h) = 0 by rcases ho.2 with rfl | rfl | rfl <;> rfl] at this
    clear cp ho
    simp only [shN]
    generalize hB h = hb at *
    go_enter Tryz.func61, Tryz.ntmps61
    go_wp2_with (go_at_call 86; refine (cp' _).mono ?_; rintro e w1 ⟨rfl, rfl⟩)
    go_ret
    exact ⟨rfl, hA _⟩
  | ls p j =>
    have cp' : ∀ W, Calls Tryz.prog 86 #[.int .u8 108] W fun e w' => e = .returned (.int .i64 1) ∧ w' = W := fun W => cp 108 W
    clear cp ho
    simp only [shN]
    go_enter Tryz.func61, Tryz.ntmps61
    go_wp2_with (go_at_call 86; refine (cp' _).mono ?_; rintro e w1 ⟨rfl, rfl⟩)
    go_ret
    exact ⟨rfl, hA _⟩
  | tw k p j =>
    cases k with
    | bx =>
      simp only [shN, opK, hB]
      go_enter Tryz.func61, Tryz.ntmps61
      go_wp2
      go_ret
      exact ⟨rfl, hA _⟩
    | fn =>
      have cp' : ∀ W, Calls Tryz.prog 86 #[.int .u8 62] W fun e w' => e = .returned (.int .i64 2) ∧ w' = W := fun W => cp 62 W
      clear cp ho
      simp only [shN, opK, hB]
      go_enter Tryz.func61, Tryz.ntmps61
      go_wp2_with (go_at_call 86; refine (cp' _).mono ?_; rintro e w1 ⟨rfl, rfl⟩)
      go_ret
      exact ⟨rfl, hA _⟩
    | pr =>
      have cp' : ∀ W, Calls Tryz.prog 86 #[.int .u8 44] W fun e w' => e = .returned (.int .i64 2) ∧ w' = W := fun W => cp 44 W
      clear cp ho
      simp only [shN, opK, hB]
      go_enter Tryz.func61, Tryz.ntmps61
      go_wp2_with (go_at_call 86; refine (cp' _).mono ?_; rintro e w1 ⟨rfl, rfl⟩)
      go_ret
      exact ⟨rfl, hA _⟩
set_option maxHeartbeats 400000 in
theorem dturned_any (op i : Int) (w : World) :
    Calls Tryz.prog 67 #[.int .i8 op, .int .i64 i] w fun e w' => e = .returned (.bool (trn op i)) ∧ w' = w := by
  go_enter Tryz.func67, Tryz.ntmps67
  go_wp2
  all_goals
    go_ret
    refine ⟨ret_b ?_, rfl⟩
    unfold trn
    simp_all <;> rfl
set_option maxHeartbeats 800000 in
theorem dbegins_any (c : C) (a : Option Addr) (n k : Nat) (w : World) :
    Calls Tryz.prog 26 #[tree (nod c) (.slice a n k)] w fun e w' => e = .returned (.bool (beg c)) ∧ Below w.heap.size w w' := by
  have hA : ∀ o, Below w.heap.size w (w.alloc o) := fun o => (Below.refl _ _).alloc (Nat.le_refl _) _
  have HC : Aside (beg c = _) := beg_nod c
  generalize nod c = x at *
  go_enter Tryz.func26, Tryz.ntmps26
  go_wp2
  all_goals
    go_ret
    refine ⟨ret_b ?_, hA _⟩
    rw [HC.out]
    first | rfl | (simp_all; done) | (simp_all; rfl) | (cases h : (x.proj != 0) <;> simp_all)
set_option maxHeartbeats 800000 in
theorem dends_any (c : C) (a : Option Addr) (n k : Nat) (w : World) :
    Calls Tryz.prog 25 #[tree (nod c) (.slice a n k)] w fun e w' => e = .returned (.bool (decide ((nod c).op = 1) || (nod c).inj)) ∧ Below w.heap.size w w' := by
  have hA : ∀ o, Below w.heap.size w (w.alloc o) := fun o => (Below.refl _ _).alloc (Nat.le_refl _) _
  generalize nod c = x at *
  go_enter Tryz.func25, Tryz.ntmps25
  go_wp2
  all_goals
    go_ret
    refine ⟨ret_b ?_, hA _⟩
    simp_all
end Go.Proofs.YtaaokecdmbmgbaaGreatDoor
