/- What the program's check of texts, and its settling closures, answer. -/
import Derived.Test.YtkmoeflodafoeaaGreatDoorUah
import Derived.Test.YtkmoeflodafoeaaGreatDoorUai
import Derived.Deep.CutRange
import Derived.Deep.DeepCutAuto
namespace Go.Proofs.YtkmoeflodafoeaaGreatDoor.T3
set_option maxRecDepth 100000
open Go.RowKit

theorem toList_S (l : List UInt8) : (S l).toList = l := by rw [ByteArray.toList_eq]; rfl
namespace Tp
def isq (t : Ty) : Bool := decide (t = .tq)
theorem isq_S (t : Ty) : ((S (enc t)).toList == [63]) = isq t := by
  rw [toList_S]
  cases t <;> simp [enc, isq]
end Tp

set_option maxHeartbeats 1000000 in
theorem rcheck_any (v : Value) (ps : List (List UInt8)) (w : World) (hv : IsTexts w v ps) (hp : ps.length ≤ 2) :
    Calls Tryz.prog 162 #[v] w fun e w' => e = .returned (.int .i64 (Tp.firstBad ps)) ∧ w' = w := by
  obtain ⟨a, c, rfl⟩ : ∃ a c, v = .slice a ps.length c := by
    rcases hv with ⟨rfl, a, c, rfl⟩ | ⟨b, o, c, rfl, _⟩
    · exact ⟨a, c, rfl⟩
    · exact ⟨_, c, rfl⟩
  go_enter Tryz.func162, Tryz.ntmps162
  go_wp2_with fail
  go_loopg [9] ps.length (fun g t wr => w = wr ∧ ∃ k : Nat, k + g = ps.length ∧ t = .int .i64 k ∧ Aside (Tp.firstBad (ps.take k) = 0))
  case atStart => exact ⟨rfl, 0, by omega, rfl, rfl⟩
  case round =>
    obtain ⟨rfl, k, hkg, rfl, HF⟩ := hrel
    by_cases hk : k < ps.length
    · have hk' : (k : Int) < (ps.length : Int) := by omega
      obtain ⟨b, o, c, hsl, hcap, hbl, hcell⟩ : ∃ b o c', Value.slice a ps.length c = .slice (some ⟨b, o, none⟩) ps.length c' ∧ ps.length ≤ c' ∧ b < w.heap.size ∧ ∀ j p, ps[j]? = some p → w.cell? ⟨b, o + j, none⟩ = some (.string (S p)) := by
        rcases hv with ⟨rfl, _⟩ | h
        · simp at hk
        · exact h
      obtain ⟨rfl, rfl⟩ : a = some ⟨b, o, none⟩ ∧ _ := by simpa using hsl
      have hck := hcell k _ (List.getElem?_eq_getElem hk)
      have HT : Aside (ps.take (k + 1) = ps.take k ++ [ps[k]]) := List.take_succ_eq_append_getElem hk
      generalize hpk : ps[k] = q at *
      clear hcell
      by_cases hq : (Tp.chk q).1 = 0
      · have hq' : (((Tp.chk (S q).data.toList).1 : Int) != 0) = false := by rw [S_list]; simpa using hq
        have HF2 : Aside (Tp.firstBad (ps.take (k + 1)) = 0) := by
          show _ = _
          rw [HT.out, Tp.firstBad_app _ _ HF.out, Tp.firstBad, if_pos hq]; rfl
        go_wp2_with (go_at_call 121; refine (check_any _ _).mono ?_; rintro e w' ⟨rfl, hw'⟩; replace hw' := hw'.symm; subst hw')
        go_roundg (gk - 1)
        case measure => omega
        case rel => exact ⟨rfl, k + 1, by omega, by go_num, HF2⟩
      · have hq' : (((Tp.chk (S q).data.toList).1 : Int) != 0) = true := by rw [S_list]; simpa using hq
        have HN : Aside (Tp.firstBad ps = (Tp.chk q).1) := by
          show _ = _
          have h1 : ps = ps.take k ++ (q :: ps.drop (k + 1)) := by
            rw [← hpk, ← List.drop_eq_getElem_cons hk, List.take_append_drop]
          rw [h1, Tp.firstBad_app _ _ HF.out, Tp.firstBad, if_neg hq]
        go_wp2_with (go_at_call 121; refine (check_any _ _).mono ?_; rintro e w' ⟨rfl, rfl⟩)
        go_ret
        rw [HN.out]
        exact ⟨rfl, rfl⟩
    · have hk' : decide ((k : Int) < (ps.length : Int)) = false := by simp; omega
      obtain rfl : k = ps.length := by omega
      rw [List.take_length] at HF
      go_wp2_with fail
      go_ret
      rw [HF.out]
      exact ⟨rfl, rfl⟩

set_option maxHeartbeats 400000 in
theorem cons1_any (a b : Tp.Ty) (w : World) :
    Calls Tryz.prog 123 #[.string (S (Tp.enc a)), .string (S (Tp.enc b))] w fun e w' => e = .returned (.bool (Tp.isq a || Tp.isq b)) ∧ w' = w := by
  rw [← Tp.isq_S a, ← Tp.isq_S b]
  generalize S (Tp.enc a) = s at *
  generalize S (Tp.enc b) = t at *
  go_enter Tryz.func123, Tryz.ntmps123
  go_wp2
  all_goals
    go_ret
    refine ⟨ret_bool ?_, rfl⟩
    simp_all
end Go.Proofs.YtkmoeflodafoeaaGreatDoor.T3
