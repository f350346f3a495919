/- What the document's Good, Part and Ground answer. -/
import Derived.Test.YtcokgpmgknnihaaRefA
namespace Go.Proofs.Ytcokgpmgknnihaa
open Go.RowKit
set_option maxRecDepth 100000

theorem ret_b {b c : Bool} (h : b = c) : Ending.returned (.bool b) = .returned (.bool c) := by rw [h]

set_option maxHeartbeats 1000000 in
theorem good16_any (s : ByteArray) (w : World) :
    Calls Try.prog 16 #[.string s] w fun e w' => e = .returned (.bool ((Tp.chk s.data.toList).1 == 0)) ∧ w' = w := by
  have hsl := str_len s
  by_cases h64 : s.size ≤ 64
  · have h64' : (s.size : Int) ≤ 64 := by omega
    by_cases h0 : 0 < s.size
    · have h0' : (0 : Int) < (s.size : Int) := by omega
      have hb := behind4_any s h64 0 h0
      have HV : Aside (((Tp.chk s.data.toList).1 == 0) = (bhd s.data.toList 0 == (s.size : Int))) := by
        show _ = _
        unfold bhd
        rw [List.drop_zero]
        cases hg : (Tp.beh s.data.toList 1).2 with
        | false =>
          rw [Tp.chk_bad (by omega) (.inl hg)]
          simp
        | true =>
          by_cases hl : (Tp.beh s.data.toList 1).1 = s.data.toList.length
          · rw [Tp.chk_good (by omega) (Prod.ext hl hg)]
            simp [hl, hsl]
          · rw [Tp.chk_bad (by omega) (.inr hl)]
            rw [hsl] at hl
            simp; omega
      generalize bhd s.data.toList 0 = bv at *
      clear hsl
      go_enter Try.func16, Try.ntmps16
      go_wp2_with (go_at_call 27; refine (hb _).mono ?_; rintro e w' ⟨rfl, hw'⟩; replace hw' := hw'.symm; subst hw')
      go_ret
      rw [HV.out]
      exact ⟨rfl, rfl⟩
    · have hs0 : s.data.toList = [] := List.length_eq_zero_iff.1 (by omega)
      have h0' : decide ((0 : Int) < (s.size : Int)) = false := decide_eq_false (by omega)
      have HV : Aside (((Tp.chk s.data.toList).1 == 0) = false) := by show _ = _; rw [hs0]; decide
      clear hsl hs0
      go_enter Try.func16, Try.ntmps16
      go_wp2_with fail
      go_ret
      rw [HV.out]
      exact ⟨rfl, rfl⟩
  · have h64' : decide ((s.size : Int) ≤ 64) = false := by simp; omega
    have HV : Aside (((Tp.chk s.data.toList).1 == 0) = false) := by show _ = _; rw [Tp.chk_long (by omega)]; rfl
    clear hsl
    go_enter Try.func16, Try.ntmps16
    go_wp2_with fail
    go_ret
    rw [HV.out]
    exact ⟨rfl, rfl⟩
set_option maxHeartbeats 400000 in
theorem good_any (s : ByteArray) (w : World) :
    Calls Try.prog 6 #[.string s] w fun e w' => e = .returned (.bool ((Tp.chk s.data.toList).1 == 0)) ∧ w' = w := by
  go_enter Try.func6, Try.ntmps6
  go_wp2_with (go_at_call 16; refine (good16_any _ _).mono ?_; rintro e w' ⟨rfl, rfl⟩)
  go_ret
  exact ⟨rfl, rfl⟩

theorem bhd_at {l r : List UInt8} {k : Nat} {t : Tp.Ty} (h : l.drop k = Tp.enc t ++ r) : bhd l k = ((k + (Tp.enc t).length : Nat) : Int) := by
  unfold bhd
  rw [h, Tp.beh_enc t r 0, Tp.beh_zero]
  simp

set_option maxHeartbeats 1000000 in
theorem part0_any (s : ByteArray) (u : Tp.Ty) (c : UInt8) (r : List UInt8) (hs : s = S (c :: (Tp.enc u ++ r))) (h64 : (c :: (Tp.enc u ++ r)).length ≤ 64) (w : World) :
    Calls Try.prog 17 #[.string s, .int .i64 0] w fun e w' => e = .returned (.string (S (Tp.enc u))) ∧ w' = w := by
  have hz : s.size = 1 + (Tp.enc u).length + r.length := by rw [hs, S_size]; simp; omega
  have hp := Tp.enc_pos u
  have h64' : s.size ≤ 64 := by rw [hs, S_size]; exact h64
  have hb := behind4_any s h64' 1 (by omega)
  rw [show bhd s.data.toList 1 = ((1 + (Tp.enc u).length : Nat) : Int) from bhd_at (r := r) (by rw [hs]; rfl)] at hb
  have HE : Aside (s.extract 1 (1 + (Tp.enc u).length) = S (Tp.enc u)) := by
    show _ = _
    rw [hs, S_cut]
    simp
  have hn1 : ((1 + (Tp.enc u).length : Nat) : Int) ≤ (s.size : Int) := by omega
  have hn2 : (1 : Int) ≤ ((1 + (Tp.enc u).length : Nat) : Int) := by omega
  generalize 1 + (Tp.enc u).length = n at *
  clear hs hz h64
  go_enter Try.func17, Try.ntmps17
  go_wp2_with fail
  go_loopg [5, 6] 0 (fun g t kv wr => wr = w ∧ t = .int .i64 1 ∧ kv = .int .i64 0)
  case atStart => exact ⟨rfl, rfl, rfl⟩
  case round =>
    obtain ⟨rfl, rfl, rfl⟩ := hrel
    go_wp2_with (go_at_call 27; refine (hb _).mono ?_; rintro e w' ⟨rfl, hw'⟩; replace hw' := hw'.symm; subst hw')
    go_ret
    exact ⟨by first | (rw [← HE.out]; rfl) | (congr 2; rw [← HE.out]; congr 1), rfl⟩

set_option maxHeartbeats 1000000 in
theorem part1_any (s : ByteArray) (u v : Tp.Ty) (c : UInt8) (hs : s = S (c :: (Tp.enc u ++ Tp.enc v))) (h64 : (c :: (Tp.enc u ++ Tp.enc v)).length ≤ 64) (w : World) :
    Calls Try.prog 17 #[.string s, .int .i64 1] w fun e w' => e = .returned (.string (S (Tp.enc v))) ∧ w' = w := by
  have hz : s.size = 1 + (Tp.enc u).length + (Tp.enc v).length := by rw [hs, S_size]; simp; omega
  have hp := Tp.enc_pos u
  have hp2 := Tp.enc_pos v
  have h64' : s.size ≤ 64 := by rw [hs, S_size]; exact h64
  have hb := behind4_any s h64' 1 (by omega)
  rw [show bhd s.data.toList 1 = ((1 + (Tp.enc u).length : Nat) : Int) from bhd_at (r := Tp.enc v) (by rw [hs]; rfl)] at hb
  have hb2 := behind4_any s h64' (1 + (Tp.enc u).length) (by omega)
  rw [show bhd s.data.toList (1 + (Tp.enc u).length) = ((1 + (Tp.enc u).length + (Tp.enc v).length : Nat) : Int) from bhd_at (r := []) (by rw [hs, S_list, Nat.add_comm]; simp)] at hb2
  have HE : Aside (s.extract (1 + (Tp.enc u).length) (1 + (Tp.enc u).length + (Tp.enc v).length) = S (Tp.enc v)) := by
    show _ = _
    rw [hs, S_cut, Nat.add_comm 1]
    simp
  have hn1 : ((1 + (Tp.enc u).length + (Tp.enc v).length : Nat) : Int) ≤ (s.size : Int) := by omega
  have hn2 : ((1 + (Tp.enc u).length : Nat) : Int) ≤ ((1 + (Tp.enc u).length + (Tp.enc v).length : Nat) : Int) := by omega
  have hn3 : (0 : Int) ≤ ((1 + (Tp.enc u).length : Nat) : Int) := by omega
  generalize hm : 1 + (Tp.enc u).length + (Tp.enc v).length = m at *
  generalize hn : 1 + (Tp.enc u).length = n at *
  have hb1' : ∀ w : World, Calls Try.prog 27 #[.string s, .int .i64 1] w fun e w' => e = .returned (.int .i64 n) ∧ w' = w := hb
  clear hs hz h64 hm hn hb
  go_enter Try.func17, Try.ntmps17
  go_wp2_with fail
  go_loopg [5, 6] 1 (fun g t kv wr => wr = w ∧ ((g = 1 ∧ t = .int .i64 1 ∧ kv = .int .i64 0) ∨ (g = 0 ∧ t = .int .i64 n ∧ kv = .int .i64 1)))
  case atStart => exact ⟨rfl, .inl ⟨rfl, rfl, rfl⟩⟩
  case round =>
    obtain ⟨rfl, ⟨hg, rfl, rfl⟩ | ⟨hg, rfl, rfl⟩⟩ := hrel
    · go_wp2_with (go_at_call 27; refine (hb1' _).mono ?_; rintro e w' ⟨rfl, hw'⟩; replace hw' := hw'.symm; subst hw')
      go_roundg 0
      case measure => omega
      case rel => exact ⟨rfl, .inr ⟨rfl, rfl, rfl⟩⟩
    · go_wp2_with (go_at_call 27; refine (hb2 _).mono ?_; rintro e w' ⟨rfl, hw'⟩; replace hw' := hw'.symm; subst hw')
      go_ret
      exact ⟨by first | (rw [← HE.out]; rfl) | (congr 2; rw [← HE.out]; congr 1), rfl⟩

def npt (c : Int) : Int := if c == 62 || c == 44 then 2 else if c == 108 || c == 120 then 1 else 0
theorem npt_ar (c : Int) (h : 0 ≤ Tp.ar c) : npt c = Tp.ar c := by
  rcases ar_cases c with ⟨h1, rfl | rfl | rfl | rfl⟩ | ⟨h1, rfl | rfl⟩ | ⟨h1, rfl | rfl⟩ | ⟨h1, _⟩ <;> first | rfl | omega
set_option maxHeartbeats 400000 in
theorem parts4_any (c : Int) (w : World) :
    Calls Try.prog 26 #[.int .u8 c] w fun e w' => e = .returned (.int .i64 (npt c)) ∧ w' = w := by
  go_enter Try.func26, Try.ntmps26
  go_wp2
  all_goals
    go_ret
    refine ⟨ret_int ?_, rfl⟩
    unfold npt
    simp_all
theorem ty34 : Try.prog.underlying 34 = some (.slice 5) := by kernel_rfl
theorem ty9' : Try.prog.underlying 9 = some .string := by kernel_rfl
theorem ty5 : Try.prog.underlying 5 = some (.int .u8) := by kernel_rfl
theorem conv_one (h : UInt8) (w : World) : (convert 34 9 (.slice (some ⟨w.heap.size, 0, none⟩) 1 1)).run Try.prog (w.alloc (.cells #[.int .u8 (h.toNat : Int)] 5)) = .ok (.string (S [h])) (w.alloc (.cells #[.int .u8 (h.toNat : Int)] 5)) := by
  refine run_convert_bytes_back (P := Try.prog) _ 34 9 5 ⟨w.heap.size, 0, none⟩ 1 [h] ty34 ty5 ty9' (fun d hd => ?_)
  obtain rfl : d = 0 := by simp at hd; omega
  simp [Addr.add]

set_option maxHeartbeats 1000000 in
theorem rground_any (t : Tp.Ty) (w : World) :
    Calls Try.prog 15 #[.int .u8 ((Tp.hd t).toNat : Int)] w fun e w' => e = .returned (.string (S (Tp.enc (Tp.grT t)))) ∧ Below w.heap.size w w' := by
  have hcv := conv_one (Tp.hd t) w
  have hB0 : Below w.heap.size w (w.alloc (.cells #[.int .u8 ((Tp.hd t).toNat : Int)] 5)) := (Below.refl _ _).alloc (Nat.le_refl _) _
  have hA : ∀ w : World, Calls Try.prog 26 #[.int .u8 (Tp.hd t).toNat] w fun e w' => e = .returned (.int .i64 ((Tp.kids t).length : Nat)) ∧ w' = w := by
    intro w
    have := parts4_any ((Tp.hd t).toNat : Int) w
    rw [npt_ar _ (by rw [Tp.ar_hd t]; omega), Tp.ar_hd t] at this
    exact this
  have hk2 : (Tp.kids t).length ≤ 2 := by cases t <;> simp [Tp.kids]
  have HE : Aside (S (Tp.enc (Tp.grT t)) = S (Tp.hd t :: List.replicate (Tp.kids t).length 63)) := by
    show _ = _
    cases t <;> rfl
  have ha : ∀ k, S (Tp.hd t :: List.replicate k 63) ++ (⟨#[63]⟩ : ByteArray) = S (Tp.hd t :: List.replicate (k + 1) 63) := fun k => by
    have : S (Tp.hd t :: List.replicate k 63) ++ S [63] = _ := S_add _ _
    rw [show (⟨#[63]⟩ : ByteArray) = S [63] from rfl, this]
    congr 1
    rw [List.replicate_succ']
    rfl
  have hz : ∀ k, (S (Tp.hd t :: List.replicate k 63)).size = k + 1 := fun k => by rw [S_size]; simp
  have h0 : S [Tp.hd t] = S (Tp.hd t :: List.replicate 0 63) := rfl
  rw [h0] at hcv
  generalize (Tp.kids t).length = n at *
  generalize ((Tp.hd t).toNat : Int) = q at *
  generalize hfs : (fun k => S (Tp.hd t :: List.replicate k 63)) = f at *
  have hf : ∀ k, S (Tp.hd t :: List.replicate k 63) = f k := fun k => by rw [← hfs]
  simp only [hf] at *
  clear hf hfs
  go_enter Try.func15, Try.ntmps15
  go_wp2_with fail
  generalize w.alloc (.cells #[.int .u8 q] 5) = W at *
  go_loopg [3, 4] n (fun g sv kv wr => wr = W ∧ ∃ k : Nat, k + g = n ∧ sv = .string (f k) ∧ kv = .int .i64 k)
  case atStart => exact ⟨rfl, 0, by omega, rfl, rfl⟩
  case round =>
    obtain ⟨rfl, k, hkg, rfl, rfl⟩ := hrel
    have hzk := hz k
    have hak := ha k
    by_cases hk : k < n
    · have hk' : (k : Int) < (n : Int) := by omega
      go_wp2_with (go_at_call 26; refine (hA _).mono ?_; rintro e w' ⟨rfl, hw'⟩; replace hw' := hw'.symm; subst hw')
      go_roundg (gk - 1)
      case measure => omega
      case rel => exact ⟨rfl, k + 1, by omega, by rw [← hak], by go_num⟩
    · have hk' : decide ((k : Int) < (n : Int)) = false := by simp; omega
      obtain rfl : k = n := by omega
      go_wp2_with (go_at_call 26; refine (hA _).mono ?_; rintro e w' ⟨rfl, hw'⟩; replace hw' := hw'.symm; subst hw')
      go_ret
      rw [HE.out]
      exact ⟨rfl, hB0⟩
end Go.Proofs.Ytcokgpmgknnihaa
