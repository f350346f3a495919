/- What the document's Behind, Good, Part and Parts answer. -/
import Derived.Test.YtnhihajhhlilfaaMgae
namespace Go.Proofs.Ytnhihajhhlilfaa.T3
open Go.RowKit
set_option maxRecDepth 100000

/-- What a letter does to the number of types still to come. -/
theorem ar_cases (c : Int) : (Tp.ar c = 0 ∧ (c = 105 ∨ c = 98 ∨ c = 116 ∨ c = 63)) ∨ (Tp.ar c = 1 ∧ (c = 108 ∨ c = 120)) ∨ (Tp.ar c = 2 ∧ (c = 62 ∨ c = 44)) ∨ (Tp.ar c = -1 ∧ c ≠ 105 ∧ c ≠ 98 ∧ c ≠ 116 ∧ c ≠ 63 ∧ c ≠ 108 ∧ c ≠ 120 ∧ c ≠ 62 ∧ c ≠ 44) := by
  unfold Tp.ar
  simp only [beq_iff_eq, Bool.or_eq_true]
  split
  · left; refine ⟨rfl, ?_⟩; omega
  · split
    · right; left; exact ⟨rfl, by omega⟩
    · split
      · right; right; left; exact ⟨rfl, by omega⟩
      · right; right; right; refine ⟨rfl, ?_⟩; omega

/-- The document's answer of Behind from a place on. -/
def bhd (l : List UInt8) (k : Nat) : Int := if (Tp.beh (l.drop k) 1).2 then ((k + (Tp.beh (l.drop k) 1).1 : Nat) : Int) else -1
/-- So far. -/
def SoK (l : List UInt8) (k j m : Nat) : Prop := k ≤ j ∧ Tp.beh (l.drop k) 1 = (j - k + (Tp.beh (l.drop j) m).1, (Tp.beh (l.drop j) m).2)
theorem SoK.start (l : List UInt8) (k : Nat) : SoK l k k 1 := ⟨Nat.le_refl _, by simp⟩
theorem SoK.step {l : List UInt8} {k j m : Nat} (h : SoK l k j (m + 1)) (hj : j < l.length) (ha : 0 ≤ Tp.ar (Tp.B l j)) : SoK l k (j + 1) (m + (Tp.ar (Tp.B l j)).toNat) := by
  obtain ⟨h0, h⟩ := h
  obtain ⟨c, hd, hc⟩ := Tp.drop_B hj
  rw [hd, Tp.beh_cons _ _ _ (by rw [hc]; omega), hc] at h
  exact ⟨by omega, by rw [h]; exact Prod.ext (by simp; omega) rfl⟩
theorem SoK.bad {l : List UInt8} {k j m : Nat} (h : SoK l k j (m + 1)) (hj : j < l.length) (ha : Tp.ar (Tp.B l j) < 0) : bhd l k = -1 := by
  obtain ⟨h0, h⟩ := h
  obtain ⟨c, hd, hc⟩ := Tp.drop_B hj
  rw [hd, Tp.beh, if_pos (by rw [hc]; exact ha)] at h
  unfold bhd
  rw [h]; rfl
theorem SoK.out {l : List UInt8} {k j m : Nat} (h : SoK l k j (m + 1)) (hj : ¬ j < l.length) : bhd l k = -1 := by
  obtain ⟨h0, h⟩ := h
  rw [show l.drop j = [] from List.drop_eq_nil_of_le (by omega)] at h
  unfold bhd
  rw [h]; rfl
theorem SoK.zero {l : List UInt8} {k j : Nat} (h : SoK l k j 0) : bhd l k = j := by
  obtain ⟨h0, h⟩ := h
  rw [Tp.beh_zero] at h
  unfold bhd
  rw [h]
  simp; omega

set_option maxHeartbeats 2000000 in
theorem behind4_any (s : ByteArray) (hs : s.size ≤ 64) (k : Nat) (hk : k < s.size) (w : World) :
    Calls Try.prog 96 #[.string s, .int .i64 k] w fun e w' => e = .returned (.int .i64 (bhd s.data.toList k)) ∧ w' = w := by
  have HL : Aside (s.data.toList.length = s.size) := str_len s
  have hk1 : decide ((k : Int) < 0) = false := by simp
  have hk2 : decide ((s.size : Int) ≤ (k : Int)) = false := by simp; omega
  generalize hbv : bhd s.data.toList k = bv at *
  go_enter Try.func96, Try.ntmps96
  go_wp2_with fail
  go_loopg [1, 5] (s.size - k) (fun g t mv wr => ∃ j m : Nat, wr = w ∧ t = .int .i64 j ∧ mv = .int .i64 m ∧ j + g = s.size ∧ m ≤ j + 1 ∧ Aside (SoK s.data.toList k j m))
  case atStart => exact ⟨k, 1, rfl, rfl, rfl, by omega, by omega, SoK.start _ _⟩
  case round =>
    obtain ⟨j, m, rfl, rfl, rfl, hjg, hmj, HS⟩ := hrel
    have hj0 : (0 : Int) ≤ (j : Int) := by omega
    by_cases hj : j < s.size
    · have hj' : (j : Int) < (s.size : Int) := by omega
      cases m with
      | zero =>
        have HB : Aside (bv = j) := by show _ = _; rw [← hbv]; exact HS.out.zero
        go_wp2_with fail
        go_ret
        rw [HB.out]
        exact ⟨rfl, rfl⟩
      | succ m =>
        have hBk := str_B s j hj
        have hm0 : (0 : Int) < (((m + 1 : Nat) : Int)) := by omega
        have hjl : j < s.data.toList.length := by rw [HL.out]; exact hj
        rcases ar_cases (Tp.B s.data.toList j) with ⟨ha, hc⟩ | ⟨ha, hc⟩ | ⟨ha, hc⟩ | ⟨ha, hc⟩
        · have H2 : Aside (SoK s.data.toList k (j + 1) m) := by have := HS.out.step hjl (by omega); rw [ha] at this; exact this
          clear ha
          rcases hc with hc | hc | hc | hc
          all_goals
            rw [hc] at hBk
            clear hc
            go_wp2_with fail
            go_roundg (gk - 1)
            case measure => omega
            case rel => exact ⟨j + 1, m, rfl, by go_num, by go_num, by omega, by omega, H2⟩
        · have H2 : Aside (SoK s.data.toList k (j + 1) (m + 1)) := by have := HS.out.step hjl (by omega); rw [ha] at this; exact this
          clear ha
          rcases hc with hc | hc
          all_goals
            rw [hc] at hBk
            clear hc
            go_wp2_with fail
            go_roundg (gk - 1)
            case measure => omega
            case rel => exact ⟨j + 1, m + 1, rfl, by go_num, rfl, by omega, by omega, H2⟩
        · have H2 : Aside (SoK s.data.toList k (j + 1) (m + 2)) := by have := HS.out.step hjl (by omega); rw [ha] at this; exact this
          clear ha
          rcases hc with hc | hc
          all_goals
            rw [hc] at hBk
            clear hc
            go_wp2_with fail
            go_roundg (gk - 1)
            case measure => omega
            case rel => exact ⟨j + 1, m + 2, rfl, by go_num, by go_num, by omega, by omega, H2⟩
        · have HB : Aside (bv = -1) := by show _ = _; rw [← hbv]; exact HS.out.bad hjl (by omega)
          obtain ⟨c1, c2, c3, c4, c5, c6, c7, c8⟩ := hc
          generalize Tp.B s.data.toList j = q at *
          have k1 : (q == 105) = false := by simpa using c1
          have k2 : (q == 98) = false := by simpa using c2
          have k3 : (q == 116) = false := by simpa using c3
          have k4 : (q == 63) = false := by simpa using c4
          have k5 : (q == 108) = false := by simpa using c5
          have k6 : (q == 120) = false := by simpa using c6
          have k7 : (q == 62) = false := by simpa using c7
          have k8 : (q == 44) = false := by simpa using c8
          clear ha c1 c2 c3 c4 c5 c6 c7 c8
          go_wp2_with fail
          go_ret
          rw [HB.out]
          exact ⟨rfl, rfl⟩
    · have hj' : decide ((j : Int) < (s.size : Int)) = false := by simp; omega
      cases m with
      | zero =>
        have HB : Aside (bv = j) := by show _ = _; rw [← hbv]; exact HS.out.zero
        go_wp2_with fail
        go_ret
        rw [HB.out]
        exact ⟨rfl, rfl⟩
      | succ m =>
        have HB : Aside (bv = -1) := by show _ = _; rw [← hbv]; exact HS.out.out (by rw [HL.out]; exact hj)
        have hm0 : (0 : Int) < (((m + 1 : Nat) : Int)) := by omega
        go_wp2_with fail
        go_ret
        rw [HB.out]
        exact ⟨rfl, rfl⟩

theorem ret_b {b c : Bool} (h : b = c) : Ending.returned (.bool b) = .returned (.bool c) := by rw [h]

set_option maxHeartbeats 1000000 in
theorem good16_any (s : ByteArray) (w : World) :
    Calls Try.prog 89 #[.string s] w fun e w' => e = .returned (.bool ((Tp.chk s.data.toList).1 == 0)) ∧ w' = w := by
  have hsl := str_len s
  by_cases h64 : s.size ≤ 64
  · have h64' : (s.size : Int) ≤ 64 := by omega
    by_cases h0 : 0 < s.size
    · have h0' : (0 : Int) < (s.size : Int) := by omega
      have hb := behind4_any s h64 0 h0
      have HV : Aside (((Tp.chk s.data.toList).1 == 0) = (bhd s.data.toList 0 == (s.size : Int))) := by
        show _ = _
        unfold bhd
        rw [List.drop_zero]
        cases hg : (Tp.beh s.data.toList 1).2 with
        | false =>
          rw [Tp.chk_bad (by omega) (.inl hg)]
          simp
        | true =>
          by_cases hl : (Tp.beh s.data.toList 1).1 = s.data.toList.length
          · rw [Tp.chk_good (by omega) (Prod.ext hl hg)]
            simp [hl, hsl]
          · rw [Tp.chk_bad (by omega) (.inr hl)]
            rw [hsl] at hl
            simp; omega
      generalize bhd s.data.toList 0 = bv at *
      clear hsl
      go_enter Try.func89, Try.ntmps89
      go_wp2_with (go_at_call 96; refine (hb _).mono ?_; rintro e w' ⟨rfl, hw'⟩; replace hw' := hw'.symm; subst hw')
      go_ret
      rw [HV.out]
      exact ⟨rfl, rfl⟩
    · have hs0 : s.data.toList = [] := List.length_eq_zero_iff.1 (by omega)
      have h0' : decide ((0 : Int) < (s.size : Int)) = false := decide_eq_false (by omega)
      have HV : Aside (((Tp.chk s.data.toList).1 == 0) = false) := by show _ = _; rw [hs0]; decide
      clear hsl hs0
      go_enter Try.func89, Try.ntmps89
      go_wp2_with fail
      go_ret
      rw [HV.out]
      exact ⟨rfl, rfl⟩
  · have h64' : decide ((s.size : Int) ≤ 64) = false := by simp; omega
    have HV : Aside (((Tp.chk s.data.toList).1 == 0) = false) := by show _ = _; rw [Tp.chk_long (by omega)]; rfl
    clear hsl
    go_enter Try.func89, Try.ntmps89
    go_wp2_with fail
    go_ret
    rw [HV.out]
    exact ⟨rfl, rfl⟩
theorem bhd_at {l r : List UInt8} {k : Nat} {t : Tp.Ty} (h : l.drop k = Tp.enc t ++ r) : bhd l k = ((k + (Tp.enc t).length : Nat) : Int) := by
  unfold bhd
  rw [h, Tp.beh_enc t r 0, Tp.beh_zero]
  simp

set_option maxHeartbeats 1000000 in
theorem part0_any (s : ByteArray) (u : Tp.Ty) (c : UInt8) (r : List UInt8) (hs : s = S (c :: (Tp.enc u ++ r))) (h64 : (c :: (Tp.enc u ++ r)).length ≤ 64) (w : World) :
    Calls Try.prog 98 #[.string s, .int .i64 0] w fun e w' => e = .returned (.string (S (Tp.enc u))) ∧ w' = w := by
  have hz : s.size = 1 + (Tp.enc u).length + r.length := by rw [hs, S_size]; simp; omega
  have hp := Tp.enc_pos u
  have h64' : s.size ≤ 64 := by rw [hs, S_size]; exact h64
  have hb := behind4_any s h64' 1 (by omega)
  rw [show bhd s.data.toList 1 = ((1 + (Tp.enc u).length : Nat) : Int) from bhd_at (r := r) (by rw [hs]; rfl)] at hb
  have HE : Aside (s.extract 1 (1 + (Tp.enc u).length) = S (Tp.enc u)) := by
    show _ = _
    rw [hs, S_cut]
    simp
  have hn1 : ((1 + (Tp.enc u).length : Nat) : Int) ≤ (s.size : Int) := by omega
  have hn2 : (1 : Int) ≤ ((1 + (Tp.enc u).length : Nat) : Int) := by omega
  generalize 1 + (Tp.enc u).length = n at *
  clear hs hz h64
  go_enter Try.func98, Try.ntmps98
  go_wp2_with fail
  go_loopg [5, 6] 0 (fun g t kv wr => wr = w ∧ t = .int .i64 1 ∧ kv = .int .i64 0)
  case atStart => exact ⟨rfl, rfl, rfl⟩
  case round =>
    obtain ⟨rfl, rfl, rfl⟩ := hrel
    go_wp2_with (go_at_call 96; refine (hb _).mono ?_; rintro e w' ⟨rfl, hw'⟩; replace hw' := hw'.symm; subst hw')
    go_ret
    exact ⟨by first | (rw [← HE.out]; rfl) | (congr 2; rw [← HE.out]; congr 1), rfl⟩

set_option maxHeartbeats 1000000 in
theorem part1_any (s : ByteArray) (u v : Tp.Ty) (c : UInt8) (hs : s = S (c :: (Tp.enc u ++ Tp.enc v))) (h64 : (c :: (Tp.enc u ++ Tp.enc v)).length ≤ 64) (w : World) :
    Calls Try.prog 98 #[.string s, .int .i64 1] w fun e w' => e = .returned (.string (S (Tp.enc v))) ∧ w' = w := by
  have hz : s.size = 1 + (Tp.enc u).length + (Tp.enc v).length := by rw [hs, S_size]; simp; omega
  have hp := Tp.enc_pos u
  have hp2 := Tp.enc_pos v
  have h64' : s.size ≤ 64 := by rw [hs, S_size]; exact h64
  have hb := behind4_any s h64' 1 (by omega)
  rw [show bhd s.data.toList 1 = ((1 + (Tp.enc u).length : Nat) : Int) from bhd_at (r := Tp.enc v) (by rw [hs]; rfl)] at hb
  have hb2 := behind4_any s h64' (1 + (Tp.enc u).length) (by omega)
  rw [show bhd s.data.toList (1 + (Tp.enc u).length) = ((1 + (Tp.enc u).length + (Tp.enc v).length : Nat) : Int) from bhd_at (r := []) (by rw [hs, S_list, Nat.add_comm]; simp)] at hb2
  have HE : Aside (s.extract (1 + (Tp.enc u).length) (1 + (Tp.enc u).length + (Tp.enc v).length) = S (Tp.enc v)) := by
    show _ = _
    rw [hs, S_cut, Nat.add_comm 1]
    simp
  have hn1 : ((1 + (Tp.enc u).length + (Tp.enc v).length : Nat) : Int) ≤ (s.size : Int) := by omega
  have hn2 : ((1 + (Tp.enc u).length : Nat) : Int) ≤ ((1 + (Tp.enc u).length + (Tp.enc v).length : Nat) : Int) := by omega
  have hn3 : (0 : Int) ≤ ((1 + (Tp.enc u).length : Nat) : Int) := by omega
  generalize hm : 1 + (Tp.enc u).length + (Tp.enc v).length = m at *
  generalize hn : 1 + (Tp.enc u).length = n at *
  have hb1' : ∀ w : World, Calls Try.prog 96 #[.string s, .int .i64 1] w fun e w' => e = .returned (.int .i64 n) ∧ w' = w := hb
  clear hs hz h64 hm hn hb
  go_enter Try.func98, Try.ntmps98
  go_wp2_with fail
  go_loopg [5, 6] 1 (fun g t kv wr => wr = w ∧ ((g = 1 ∧ t = .int .i64 1 ∧ kv = .int .i64 0) ∨ (g = 0 ∧ t = .int .i64 n ∧ kv = .int .i64 1)))
  case atStart => exact ⟨rfl, .inl ⟨rfl, rfl, rfl⟩⟩
  case round =>
    obtain ⟨rfl, ⟨hg, rfl, rfl⟩ | ⟨hg, rfl, rfl⟩⟩ := hrel
    · go_wp2_with (go_at_call 96; refine (hb1' _).mono ?_; rintro e w' ⟨rfl, hw'⟩; replace hw' := hw'.symm; subst hw')
      go_roundg 0
      case measure => omega
      case rel => exact ⟨rfl, .inr ⟨rfl, rfl, rfl⟩⟩
    · go_wp2_with (go_at_call 96; refine (hb2 _).mono ?_; rintro e w' ⟨rfl, hw'⟩; replace hw' := hw'.symm; subst hw')
      go_ret
      exact ⟨by first | (rw [← HE.out]; rfl) | (congr 2; rw [← HE.out]; congr 1), rfl⟩

def npt (c : Int) : Int := if c == 62 || c == 44 then 2 else if c == 108 || c == 120 then 1 else 0
theorem npt_ar (c : Int) (h : 0 ≤ Tp.ar c) : npt c = Tp.ar c := by
  rcases ar_cases c with ⟨h1, rfl | rfl | rfl | rfl⟩ | ⟨h1, rfl | rfl⟩ | ⟨h1, rfl | rfl⟩ | ⟨h1, _⟩ <;> first | rfl | omega
set_option maxHeartbeats 400000 in
theorem parts4_any (c : Int) (w : World) :
    Calls Try.prog 97 #[.int .u8 c] w fun e w' => e = .returned (.int .i64 (npt c)) ∧ w' = w := by
  go_enter Try.func97, Try.ntmps97
  go_wp2
  all_goals
    go_ret
    refine ⟨ret_int ?_, rfl⟩
    unfold npt
    simp_all
end Go.Proofs.Ytnhihajhhlilfaa.T3
