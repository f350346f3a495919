/- Which nodes may be: what the program's Arity, kidsFit and the document's Arity answer. -/
import Derived.Test.YtpikfdkgblghhaaGreatDoorXag
import Derived.Test.YtpikfdkgblghhaaGreatDoorXah
import Derived.Laws.StructEq
namespace Go.Proofs.YtpikfdkgblghhaaGreatDoor
open Go.RowKit
set_option maxRecDepth 100000

namespace Tr
/-- How many kids a node of a kind has. -/
def arK (k : Int) : Int :=
  if k == 1 || k == 2 || k == 3 || k == 4 then 0
  else if k == 5 || k == 6 || k == 29 || k == 30 || k == 16 || k == 17 || k == 19 || k == 20 || k == 22 || k == 23 || k == 24 || k == 26 || k == 27 then 1
  else if k == 8 || k == 7 || k == 10 || k == 11 || k == 12 || k == 13 || k == 14 || k == 15 || k == 18 || k == 25 || k == 28 then 2
  else if k == 9 then 3 else 0
def arF (k : Int) : Bool := decide (1 ≤ k) && decide (k ≤ 30) && !(k == 21)
def fitB (x : Nd) : Bool := if x.kind == 21 then decide (0 ≤ x.kids) else if x.kind == 30 then false else arF x.kind && x.kids == arK x.kind
def agg (x : Nd) : Value := .agg #[.int .i8 x.kind, .int .i64 x.kids, .int .i64 x.n, .string x.s, .string x.t, .string x.u, .int .i64 x.ln, .int .i64 x.co]
theorem arF_in {k : Int} (h : 1 ≤ k ∧ k ≤ 30 ∧ k ≠ 21) : arF k = true := by unfold arF; simp; omega
end Tr

theorem ret_ar {a b : Int} {p q : Bool} (h : a = b) (h' : p = q) : Ending.returned (.tuple #[.int .i64 a, .bool p]) = .returned (.tuple #[.int .i64 b, .bool q]) := by rw [h, h']

set_option maxHeartbeats 2000000 in
theorem arity_any (k : Int) (w : World) :
    Calls Tryz.prog 150 #[.int .i8 k] w fun e w' => e = .returned (.tuple #[.int .i64 (Tr.arK k), .bool (Tr.arF k)]) ∧ w' = w := by
  go_enter Tryz.func150, Tryz.ntmps150
  go_wp2
  all_goals
    go_ret2
    refine ⟨ret_ar ?_ ?_, rfl⟩
    · unfold Tr.arK; simp_all
    · unfold Tr.arF
      first
        | (simp_all; done)
        | (rw [eq_comm, Bool.eq_false_iff]; simp_all; omega)

set_option maxHeartbeats 2000000 in
theorem refArity_any (k : Int) (w : World) :
    Calls Tryz.prog 106 #[.int .i8 k] w fun e w' => e = .returned (.tuple #[.int .i64 (Tr.arK k), .bool (Tr.arF k)]) ∧ w' = w := by
  go_enter Tryz.func106, Tryz.ntmps106
  go_wp2
  all_goals
    go_ret2
    refine ⟨ret_ar ?_ ?_, rfl⟩
    · unfold Tr.arK; simp_all
    · unfold Tr.arF
      first
        | (simp_all; done)
        | (rw [eq_comm, Bool.eq_false_iff]; simp_all; omega)

set_option maxHeartbeats 1000000 in
theorem kidsFit_any (x : Tr.Nd) (w : World) :
    Calls Tryz.prog 98 #[Tr.agg x] w fun e w' => e = .returned (.bool (Tr.fitB x)) ∧ Below w.heap.size w w' := by
  obtain ⟨kind, kids, n, s, t, u, ln, co⟩ := x
  have hB : ∀ o : Obj, Below w.heap.size w (w.alloc o) := fun o => (Below.refl _ _).alloc (Nat.le_refl _) _
  unfold Tr.agg
  simp only
  by_cases h21 : kind = 21
  · subst h21
    go_enter Tryz.func98, Tryz.ntmps98
    go_wp2_with fail
    all_goals
      go_ret
      refine ⟨ret_bool ?_, hB _⟩
      simp_all [Tr.fitB]
  · by_cases h30 : kind = 30
    · subst h30
      go_enter Tryz.func98, Tryz.ntmps98
      go_wp2_with fail
      go_ret
      exact ⟨ret_bool rfl, hB _⟩
    · have e21 : (kind == 21) = false := by simpa using h21
      have e30 : (kind == 30) = false := by simpa using h30
      have HF : Aside (Tr.fitB ⟨kind, kids, n, s, t, u, ln, co⟩ = (Tr.arF kind && kids == Tr.arK kind)) := by show _ = _; simp [Tr.fitB, e21, e30]
      clear h21 h30
      go_enter Tryz.func98, Tryz.ntmps98
      go_wp2_with (go_at_call 150; refine (arity_any _ _).mono ?_; rintro e w' ⟨rfl, rfl⟩)
      all_goals
        go_ret
        rw [HF.out]
        refine ⟨ret_bool ?_, hB _⟩
        simp_all
end Go.Proofs.YtpikfdkgblghhaaGreatDoor
