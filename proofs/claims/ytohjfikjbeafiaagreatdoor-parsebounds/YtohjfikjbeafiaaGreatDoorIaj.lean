/- The short sources of the limits, as the grammar reads them. -/
import Derived.Test.YtohjfikjbeafiaaGreatDoorIaf
import Derived.Test.YtohjfikjbeafiaaGreatDoorIai
namespace Go.Proofs.YtohjfikjbeafiaaGreatDoor
namespace Ps
set_option maxRecDepth 100000

/-- A text so many times. -/
def reps (s : List UInt8) : Nat → List UInt8
  | 0 => []
  | n + 1 => reps s n ++ s

theorem reps_comm (s : List UInt8) : ∀ n, s ++ reps s n = reps s n ++ s
  | 0 => by simp [reps]
  | n + 1 => by rw [reps, ← List.append_assoc, reps_comm s n]
theorem reps_len (s : List UInt8) : ∀ n, (reps s n).length = n * s.length
  | 0 => by simp [reps]
  | n + 1 => by rw [reps, List.length_append, reps_len s n, Nat.succ_mul]

/-- What is told of an expr: an error at a place, or none. -/
def ToldE (bs : List UInt8) (c a b : Int) : Prop := (c = 0 ∧ a = 0 ∧ b = 0 ∧ ∃ ns, exprF bs = .ok ns) ∨ exprF bs = .error (c, (a, b))
def ToldM (bs : List UInt8) (c a b : Int) : Prop := (c = 0 ∧ a = 0 ∧ b = 0 ∧ ∃ ns, modsF bs = .ok ns) ∨ modsF bs = .error (c, (a, b))

theorem toldE_ok {bs : List UInt8} (h : (match exprF bs with | .ok _ => true | .error _ => false) = true) : ToldE bs 0 0 0 := by
  refine .inl ⟨rfl, rfl, rfl, ?_⟩
  revert h
  cases exprF bs with
  | error e => intro h; cases h
  | ok ns => intro _; exact ⟨ns, rfl⟩
theorem toldM_ok {bs : List UInt8} (h : (match modsF bs with | .ok _ => true | .error _ => false) = true) : ToldM bs 0 0 0 := by
  refine .inl ⟨rfl, rfl, rfl, ?_⟩
  revert h
  cases modsF bs with
  | error e => intro h; cases h
  | ok ns => intro _; exact ⟨ns, rfl⟩

theorem told1 : ToldE (reps [45] 63 ++ [49]) 0 0 0 := toldE_ok (by kernel_rfl)
theorem told2 : ToldE ([32] ++ reps [45] 64 ++ [49]) 16 1 2 := .inr (by kernel_rfl)
theorem told5 : ToldE ([40, 120, 32, 58, 32] ++ reps [98, 111, 120, 32] 63 ++ [105, 110, 116, 41]) 0 0 0 := toldE_ok (by kernel_rfl)
theorem told6 : ToldE ([40, 120, 32, 58, 32] ++ reps [98, 111, 120, 32] 64 ++ [105, 110, 116, 41]) 21 1 6 := .inr (by kernel_rfl)
theorem told7 : ToldM (reps [109, 111, 100, 117, 108, 101, 32, 109, 32, 123, 125] 8) 0 0 0 := toldM_ok (by kernel_rfl)
theorem told8 : ToldM (reps [109, 111, 100, 117, 108, 101, 32, 109, 32, 123, 125] 9) 17 1 96 := .inr (by kernel_rfl)
theorem told12 : ToldM ([109, 111, 100, 117, 108, 101, 32, 109, 32, 123, 108, 101, 116, 32, 120, 61] ++ reps [45] 64 ++ [49, 59, 125]) 16 1 15 := .inr (by kernel_rfl)
theorem reps_rep (n : Nat) : reps [44, 48] n = T1.Tx.rep n := by
  induction n with
  | zero => rfl
  | succ n ih => rw [reps, ← reps_comm, ih]; rfl
theorem told3 : ToldE ([91, 48] ++ reps [44, 48] 4094 ++ [93]) 0 0 0 := by
  rw [reps_rep, List.append_assoc]
  exact .inl ⟨rfl, rfl, rfl, expr_wide1⟩
theorem two_eq (X : List UInt8) : [49, 32, 61, 61, 32] ++ ([91, 48] ++ X ++ [93]) = [49, 32, 61, 61, 32, 91, 48] ++ (X ++ [93]) := by simp
theorem three_eq (X : List UInt8) : [109, 111, 100, 117, 108, 101, 32, 109, 32, 123, 108, 101, 116, 32, 120, 61] ++ ([91, 48] ++ X ++ [93]) ++ [59, 108, 101, 116, 32, 121, 61, 49, 59, 125] = [109, 111, 100, 117, 108, 101, 32, 109, 32, 123, 108, 101, 116, 32, 120, 61, 91, 48] ++ (X ++ [93, 59, 108, 101, 116, 32, 121, 61, 49, 59, 125]) := by simp
theorem told4 : ToldE ([49, 32, 61, 61, 32] ++ ([91, 48] ++ reps [44, 48] 4094 ++ [93])) 17 1 1 := by
  rw [two_eq, reps_rep]
  exact .inr expr_wide2
theorem eight : ((8212 : Nat) : Int) + 1 = 8213 := by decide
theorem told11 : ToldM ([109, 111, 100, 117, 108, 101, 32, 109, 32, 123, 108, 101, 116, 32, 120, 61] ++ ([91, 48] ++ reps [44, 48] 4094 ++ [93]) ++ [59, 108, 101, 116, 32, 121, 61, 49, 59, 125]) 17 1 8213 := by
  rw [three_eq, reps_rep, ← eight]
  exact .inr mods_wide3
end Ps
end Go.Proofs.YtohjfikjbeafiaaGreatDoor
