/- What the document's Behind, Good, Part and Ground answer. -/
import Derived.Test.YtcokgpmgknnihaaSafeSpec
namespace Go.Proofs.Ytcokgpmgknnihaa
open Go.RowKit
set_option maxRecDepth 100000

/-- What a letter does to the number of types still to come. -/
theorem ar_cases (c : Int) : (Tp.ar c = 0 ∧ (c = 105 ∨ c = 98 ∨ c = 116 ∨ c = 63)) ∨ (Tp.ar c = 1 ∧ (c = 108 ∨ c = 120)) ∨ (Tp.ar c = 2 ∧ (c = 62 ∨ c = 44)) ∨ (Tp.ar c = -1 ∧ c ≠ 105 ∧ c ≠ 98 ∧ c ≠ 116 ∧ c ≠ 63 ∧ c ≠ 108 ∧ c ≠ 120 ∧ c ≠ 62 ∧ c ≠ 44) := by
  unfold Tp.ar
  simp only [beq_iff_eq, Bool.or_eq_true]
  split
  · left; refine ⟨rfl, ?_⟩; omega
  · split
    · right; left; exact ⟨rfl, by omega⟩
    · split
      · right; right; left; exact ⟨rfl, by omega⟩
      · right; right; right; refine ⟨rfl, ?_⟩; omega

/-- The document's answer of Behind from a place on. -/
def bhd (l : List UInt8) (k : Nat) : Int := if (Tp.beh (l.drop k) 1).2 then ((k + (Tp.beh (l.drop k) 1).1 : Nat) : Int) else -1
/-- So far. -/
def SoK (l : List UInt8) (k j m : Nat) : Prop := k ≤ j ∧ Tp.beh (l.drop k) 1 = (j - k + (Tp.beh (l.drop j) m).1, (Tp.beh (l.drop j) m).2)
theorem SoK.start (l : List UInt8) (k : Nat) : SoK l k k 1 := ⟨Nat.le_refl _, by simp⟩
theorem SoK.step {l : List UInt8} {k j m : Nat} (h : SoK l k j (m + 1)) (hj : j < l.length) (ha : 0 ≤ Tp.ar (Tp.B l j)) : SoK l k (j + 1) (m + (Tp.ar (Tp.B l j)).toNat) := by
  obtain ⟨h0, h⟩ := h
  obtain ⟨c, hd, hc⟩ := Tp.drop_B hj
  rw [hd, Tp.beh_cons _ _ _ (by rw [hc]; omega), hc] at h
  exact ⟨by omega, by rw [h]; exact Prod.ext (by simp; omega) rfl⟩
theorem SoK.bad {l : List UInt8} {k j m : Nat} (h : SoK l k j (m + 1)) (hj : j < l.length) (ha : Tp.ar (Tp.B l j) < 0) : bhd l k = -1 := by
  obtain ⟨h0, h⟩ := h
  obtain ⟨c, hd, hc⟩ := Tp.drop_B hj
  rw [hd, Tp.beh, if_pos (by rw [hc]; exact ha)] at h
  unfold bhd
  rw [h]; rfl
theorem SoK.out {l : List UInt8} {k j m : Nat} (h : SoK l k j (m + 1)) (hj : ¬ j < l.length) : bhd l k = -1 := by
  obtain ⟨h0, h⟩ := h
  rw [show l.drop j = [] from List.drop_eq_nil_of_le (by omega)] at h
  unfold bhd
  rw [h]; rfl
theorem SoK.zero {l : List UInt8} {k j : Nat} (h : SoK l k j 0) : bhd l k = j := by
  obtain ⟨h0, h⟩ := h
  rw [Tp.beh_zero] at h
  unfold bhd
  rw [h]
  simp; omega

set_option maxHeartbeats 2000000 in
theorem behind4_any (s : ByteArray) (hs : s.size ≤ 64) (k : Nat) (hk : k < s.size) (w : World) :
    Calls Try.prog 27 #[.string s, .int .i64 k] w fun e w' => e = .returned (.int .i64 (bhd s.data.toList k)) ∧ w' = w := by
  have HL : Aside (s.data.toList.length = s.size) := str_len s
  have hk1 : decide ((k : Int) < 0) = false := by simp
  have hk2 : decide ((s.size : Int) ≤ (k : Int)) = false := by simp; omega
  generalize hbv : bhd s.data.toList k = bv at *
  go_enter Try.func27, Try.ntmps27
  go_wp2_with fail
  go_loopg [1, 5] (s.size - k) (fun g t mv wr => ∃ j m : Nat, wr = w ∧ t = .int .i64 j ∧ mv = .int .i64 m ∧ j + g = s.size ∧ m ≤ j + 1 ∧ Aside (SoK s.data.toList k j m))
  case atStart => exact ⟨k, 1, rfl, rfl, rfl, by omega, by omega, SoK.start _ _⟩
  case round =>
    obtain ⟨j, m, rfl, rfl, rfl, hjg, hmj, HS⟩ := hrel
    have hj0 : (0 : Int) ≤ (j : Int) := by omega
    by_cases hj : j < s.size
    · have hj' : (j : Int) < (s.size : Int) := by omega
      cases m with
      | zero =>
        have HB : Aside (bv = j) := by show _ = _; rw [← hbv]; exact HS.out.zero
        go_wp2_with fail
        go_ret
        rw [HB.out]
        exact ⟨rfl, rfl⟩
      | succ m =>
        have hBk := str_B s j hj
        have hm0 : (0 : Int) < (((m + 1 : Nat) : Int)) := by omega
        have hjl : j < s.data.toList.length := by rw [HL.out]; exact hj
        rcases ar_cases (Tp.B s.data.toList j) with ⟨ha, hc⟩ | ⟨ha, hc⟩ | ⟨ha, hc⟩ | ⟨ha, hc⟩
        · have H2 : Aside (SoK s.data.toList k (j + 1) m) := by have := HS.out.step hjl (by omega); rw [ha] at this; exact this
          clear ha
          rcases hc with hc | hc | hc | hc
          all_goals
            rw [hc] at hBk
            clear hc
            go_wp2_with fail
            go_roundg (gk - 1)
            case measure => omega
            case rel => exact ⟨j + 1, m, rfl, by go_num, by go_num, by omega, by omega, H2⟩
        · have H2 : Aside (SoK s.data.toList k (j + 1) (m + 1)) := by have := HS.out.step hjl (by omega); rw [ha] at this; exact this
          clear ha
          rcases hc with hc | hc
          all_goals
            rw [hc] at hBk
            clear hc
            go_wp2_with fail
            go_roundg (gk - 1)
            case measure => omega
            case rel => exact ⟨j + 1, m + 1, rfl, by go_num, rfl, by omega, by omega, H2⟩
        · have H2 : Aside (SoK s.data.toList k (j + 1) (m + 2)) := by have := HS.out.step hjl (by omega); rw [ha] at this; exact this
          clear ha
          rcases hc with hc | hc
          all_goals
            rw [hc] at hBk
            clear hc
            go_wp2_with fail
            go_roundg (gk - 1)
            case measure => omega
            case rel => exact ⟨j + 1, m + 2, rfl, by go_num, by go_num, by omega, by omega, H2⟩
        · have HB : Aside (bv = -1) := by show _ = _; rw [← hbv]; exact HS.out.bad hjl (by omega)
          obtain ⟨c1, c2, c3, c4, c5, c6, c7, c8⟩ := hc
          generalize Tp.B s.data.toList j = q at *
          have k1 : (q == 105) = false := by simpa using c1
          have k2 : (q == 98) = false := by simpa using c2
          have k3 : (q == 116) = false := by simpa using c3
          have k4 : (q == 63) = false := by simpa using c4
          have k5 : (q == 108) = false := by simpa using c5
          have k6 : (q == 120) = false := by simpa using c6
          have k7 : (q == 62) = false := by simpa using c7
          have k8 : (q == 44) = false := by simpa using c8
          clear ha c1 c2 c3 c4 c5 c6 c7 c8
          go_wp2_with fail
          go_ret
          rw [HB.out]
          exact ⟨rfl, rfl⟩
    · have hj' : decide ((j : Int) < (s.size : Int)) = false := by simp; omega
      cases m with
      | zero =>
        have HB : Aside (bv = j) := by show _ = _; rw [← hbv]; exact HS.out.zero
        go_wp2_with fail
        go_ret
        rw [HB.out]
        exact ⟨rfl, rfl⟩
      | succ m =>
        have HB : Aside (bv = -1) := by show _ = _; rw [← hbv]; exact HS.out.out (by rw [HL.out]; exact hj)
        have hm0 : (0 : Int) < (((m + 1 : Nat) : Int)) := by omega
        go_wp2_with fail
        go_ret
        rw [HB.out]
        exact ⟨rfl, rfl⟩
end Go.Proofs.Ytcokgpmgknnihaa
