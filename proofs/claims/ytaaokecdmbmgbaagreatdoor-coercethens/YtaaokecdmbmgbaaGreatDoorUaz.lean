/- The document's coercions: small questions about a node. -/
import Derived.Test.YtaaokecdmbmgbaaGreatDoorUav
import Derived.Test.YtaaokecdmbmgbaaGreatDoorUay
namespace Go.Proofs.YtaaokecdmbmgbaaGreatDoor
open Go.RowKit Cc
set_option maxRecDepth 100000
set_option linter.unusedSimpArgs false
set_option linter.unusedVariables false
set_option maxHeartbeats 400000 in
theorem dhead_any (c : Int) (w : World) :
    Calls Tryz.prog 76 #[.int .u8 c] w fun e w' => e = .returned (.bool (hOf c).isSome) ∧ w' = w := by
  go_enter Tryz.func76, Tryz.ntmps76
  go_wp2
  all_goals
    go_ret
    refine ⟨ret_b ?_, rfl⟩
    unfold hOf
    repeat' split
    all_goals simp_all
set_option maxHeartbeats 400000 in
theorem dlabel_any (c : Int) (w : World) :
    Calls Tryz.prog 85 #[.int .i64 c] w fun e w' => e = .returned (.bool (isLab c)) ∧ w' = w := by
  go_enter Tryz.func85, Tryz.ntmps85
  go_wp2
  all_goals
    go_ret
    refine ⟨ret_b ?_, rfl⟩
    unfold isLab
    simp_all <;> omega
namespace Cc
def opD (c : Int) : Int := if c = 62 then 3 else if c = 44 then 4 else if c = 108 then 5 else if c = 120 then 6 else 2
theorem opD_of {c : Int} {h : H} (e : hOf c = some h) : opD c = opH h := by
  have := hB_of e
  subst this
  cases h <;> (try rfl)
  rename_i k; cases k <;> rfl
end Cc
set_option maxHeartbeats 400000 in
theorem dopOf_any (c : Int) (w : World) :
    Calls Tryz.prog 77 #[.int .u8 c] w fun e w' => e = .returned (.int .i8 (opD c)) ∧ w' = w := by
  go_enter Tryz.func77, Tryz.ntmps77
  go_wp2
  all_goals
    go_ret
    refine ⟨ret_i8 ?_, rfl⟩
    unfold opD
    simp_all
theorem dcls_1 {x : N} (h : x.op = 1) : (cls x).isSome = decide (x = ⟨1, 0, false, 0, 0, 0, 0⟩) := by
  unfold cls
  by_cases hp : x.proj ≠ 0 ∧ isLab x.proj = false
  · have : ¬ x = ⟨1, 0, false, 0, 0, 0, 0⟩ := by rintro rfl; exact hp.1 rfl
    rw [if_pos hp]; simp [this]
  · rw [if_neg hp, if_pos h]; split <;> simp_all
theorem dcls_no {x : N} (h : x.op ≠ 1) (hn : (hOf x.head).isSome = false ∨ (x.proj ≠ 0 ∧ isLab x.proj = false)) : (cls x).isSome = false := by
  unfold cls
  by_cases hp : x.proj ≠ 0 ∧ isLab x.proj = false
  · rw [if_pos hp]; rfl
  · rcases hn with hn | hn
    · have : hOf x.head = none := by simpa using hn
      rw [if_neg hp, if_neg h, this]
      split <;> simp
    · exact absurd hn hp
theorem dcls_7 {x : N} (h0 : (hOf x.head).isSome = true) (hp : ¬ (x.proj ≠ 0 ∧ isLab x.proj = false)) (h : x.op = 7) : (cls x).isSome = (!x.inj && isLab x.label && (x.frm == x.head) && (hOf x.tto).isSome && (x.tto != x.frm)) := by
  unfold cls; rw [if_neg hp, if_neg (by omega), if_pos h]
  obtain ⟨g, hg⟩ := Option.isSome_iff_exists.1 h0
  rw [hg]
  cases hOf x.tto <;> simp
  by_cases hf : x.frm = x.head
  · rw [hf]; split <;> simp_all
  · simp [hf]
theorem dcls_o {x : N} (h0 : (hOf x.head).isSome = true) (hp : ¬ (x.proj ≠ 0 ∧ isLab x.proj = false)) (h1 : x.op ≠ 1) (h7 : x.op ≠ 7) : (cls x).isSome = ((x.op == opD x.head) && (x.label == 0) && (x.frm == 0) && (x.tto == 0)) := by
  unfold cls; rw [if_neg hp, if_neg h1, if_neg h7]
  obtain ⟨g, hg⟩ := Option.isSome_iff_exists.1 h0
  rw [hg, opD_of hg]
  simp only
  split <;> simp_all
end Go.Proofs.YtaaokecdmbmgbaaGreatDoor
