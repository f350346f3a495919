/- The document's Asked, Names, Pieces of a node. -/
import Derived.Test.YtpikfdkgblghhaaGreatDoorUba
import Derived.Test.YtpikfdkgblghhaaGreatDoorUau
import Derived.Test.YtpikfdkgblghhaaGreatDoorUbe
import Derived.Test.YtpikfdkgblghhaaGreatDoorUao
import Derived.BigQuiet
namespace Go.Proofs.YtpikfdkgblghhaaGreatDoor
open Go.RowKit Pn
set_option maxRecDepth 100000
set_option linter.unusedSimpArgs false
set_option linter.unusedVariables false

set_option maxHeartbeats 2000000 in
theorem refAsked_any (k : Int) (j : Nat) (hj : j ≤ 100000) (w : World) :
    Calls Tryz.prog 62 #[.int .i8 k, .int .i64 (j : Int)] w fun e w' => e = .returned (.int .i64 (askd k j)) ∧ w' = w := by
  have h0 : (0 : Int) ≤ (j : Int) := by omega
  have h1 : (j : Int) ≤ 100000 := by omega
  have i1 := IntWalk.i64_in (1 - (j : Int)) (by omega)
  have i2 := IntWalk.i64_in (2 + (j : Int)) (by omega)
  have i3 := IntWalk.i64_in (3 + (j : Int)) (by omega)
  have i4 := IntWalk.i64_in (5 * (j : Int)) (by omega)
  have i5 := IntWalk.i64_in (5 - 5 * (j : Int)) (by omega)
  go_enter Tryz.func62, Tryz.ntmps62
  go_wp2
  all_goals
    go_ret
    refine ⟨ret_int ?_, rfl⟩
    unfold askd
    simp_all

set_option maxHeartbeats 1000000 in
theorem pnNames_any (s : ByteArray) (hs : s.size ≤ maxLen) (hc : (Tr.cut32 s.data.toList).2.2 = true) (w : World) : Calls Tryz.prog 112 #[.string s] w fun e w' => e = .returned (.tuple #[.string (S (Tr.cut32 s.data.toList).1), .string (S (Tr.cut32 s.data.toList).2.1)]) ∧ Below w.heap.size w w' := by
  have h := twoNames_any s hs w
  have e1 : (two s.data.toList).1 = (Tr.cut32 s.data.toList).1 := by unfold two; rw [if_pos hc]
  have e2 : (two s.data.toList).2.1 = (Tr.cut32 s.data.toList).2.1 := by unfold two; rw [if_pos hc]
  rw [e1, e2] at h
  clear e1 e2 hc
  generalize S (Tr.cut32 s.data.toList).1 = s1 at *
  generalize S (Tr.cut32 s.data.toList).2.1 = s2 at *
  generalize (two s.data.toList).2.2 = b at *
  go_enter Tryz.func112, Tryz.ntmps112
  go_wp2_with fail
  refine h.mono ?_
  rintro e w1 ⟨rfl, hB⟩
  clear h
  go_wp2_with fail
  go_ret2
  exact ⟨rfl, hB⟩

namespace Pn
/-- What Pieces answers. -/
def PcEnd (x : Tr.Nd) (w : World) (e : Ending) (w' : World) : Prop := e = .returned (.tuple #[.string (S (pcA Lib.itoa x)), .string (S (pcB x.kind 1)), .string (S (pcC x))]) ∧ Below w.heap.size w w'
theorem pc_end {x : Tr.Nd} {w w' : World} {e : Ending} {a b c : ByteArray} (h : e = .returned (.tuple #[.string a, .string b, .string c])) (ha : a = S (pcA Lib.itoa x)) (hb : b = S (pcB x.kind 1)) (hc : c = S (pcC x)) (hB : Below w.heap.size w w') : PcEnd x w e w' := by
  subst ha hb hc; exact ⟨h, hB⟩
end Pn
end Go.Proofs.YtpikfdkgblghhaaGreatDoor
