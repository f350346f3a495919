/- What the program's isType, Head, endOf, Parts answer. -/
import Derived.Test.YtkmoeflodafoeaaGreatDoorUae
namespace Go.Proofs.YtkmoeflodafoeaaGreatDoor.T3
set_option maxRecDepth 100000
open Go.RowKit

set_option maxHeartbeats 400000 in
theorem isType_any (s : ByteArray) (w : World) :
    Calls Tryz.prog 164 #[.string s] w fun e w' => e = .returned (.bool ((Tp.chk s.data.toList).1 == 0)) ∧ w' = w := by
  go_enter Tryz.func164, Tryz.ntmps164
  go_wp2_with (go_at_call 121; refine (check_any _ _).mono ?_; rintro e w' ⟨rfl, rfl⟩)
  go_ret
  refine ⟨ret_bool ?_, rfl⟩
  rw [Bool.eq_iff_iff]; simp

theorem isType_yes (s : ByteArray) (h : (Tp.chk s.data.toList).1 = 0) (w : World) : Calls Tryz.prog 164 #[.string s] w fun e w' => e = .returned (.bool true) ∧ w' = w := by
  have := isType_any s w; rw [h] at this; exact this
theorem isType_no (s : ByteArray) (h : (Tp.chk s.data.toList).1 ≠ 0) (w : World) : Calls Tryz.prog 164 #[.string s] w fun e w' => e = .returned (.bool false) ∧ w' = w := by
  have := isType_any s w
  rw [show ((Tp.chk s.data.toList).1 == 0) = false by simpa using h] at this; exact this

set_option maxHeartbeats 400000 in
theorem head_no (s : ByteArray) (h : (Tp.chk s.data.toList).1 ≠ 0) (w : World) :
    Calls Tryz.prog 126 #[.string s] w fun e w' => e = .returned (.int .u8 0) ∧ w' = w := by
  go_enter Tryz.func126, Tryz.ntmps126
  go_wp2_with (go_at_call 164; refine (isType_no _ h _).mono ?_; rintro e w' ⟨rfl, rfl⟩)
  go_ret
  exact ⟨rfl, rfl⟩

theorem S_head (t : Tp.Ty) : 0 < (S (Tp.enc t)).size ∧ ∀ h : 0 < (S (Tp.enc t)).size, ((S (Tp.enc t))[0]'h).toNat = (Tp.hd t).toNat := by
  refine ⟨by rw [S_size]; exact Tp.enc_pos t, fun h => ?_⟩
  have := Tp.enc_eq t
  show (((Tp.enc t).toArray)[0]'_).toNat = _
  simp [this]

set_option maxHeartbeats 400000 in
theorem head_yes (t : Tp.Ty) (h : (Tp.enc t).length ≤ 64) (w : World) :
    Calls Tryz.prog 126 #[.string (S (Tp.enc t))] w fun e w' => e = .returned (.int .u8 (Tp.hd t).toNat) ∧ w' = w := by
  obtain ⟨hp, hh⟩ := S_head t
  have hc : (Tp.chk (S (Tp.enc t)).data.toList).1 = 0 := by rw [S_list, Tp.chk_enc t h]
  generalize S (Tp.enc t) = s at *
  have hp' : (0 : Int) < (s.size : Int) := by omega
  have hh' := hh hp
  clear hh
  go_enter Tryz.func126, Tryz.ntmps126
  go_wp2_with (go_at_call 164; refine (isType_yes _ hc _).mono ?_; rintro e w' ⟨rfl, rfl⟩)
  go_ret
  exact ⟨rfl, rfl⟩

theorem beh_true {l : List UInt8} {j m n : Nat} (h : Tp.beh (l.drop j) (m + 1) = (n, true)) : j < l.length ∧ 0 ≤ Tp.ar (Tp.B l j) ∧ ∃ n', n = n' + 1 ∧ Tp.beh (l.drop (j + 1)) (m + (Tp.ar (Tp.B l j)).toNat) = (n', true) := by
  by_cases hj : j < l.length
  · obtain ⟨c, hd, hc⟩ := Tp.drop_B hj
    rw [hd] at h
    by_cases ha : Tp.ar (Tp.B l j) < 0
    · rw [Tp.beh, if_pos (by rw [hc]; exact ha)] at h
      simp at h
    · rw [Tp.beh_cons _ _ _ (by rw [hc]; omega), hc] at h
      exact ⟨hj, by omega, _, (Prod.mk.inj h).1.symm, Prod.ext rfl (Prod.mk.inj h).2⟩
  · rw [List.drop_eq_nil_of_le (by omega)] at h
    simp [Tp.beh] at h

set_option maxHeartbeats 1000000 in
theorem endOf_any (s : ByteArray) (hs : s.size ≤ 64) (k n : Nat) (hb : Tp.beh (s.data.toList.drop k) 1 = (n, true)) (w : World) :
    Calls Tryz.prog 166 #[.string s, .int .i64 k] w fun e w' => e = .returned (.int .i64 (k + n : Nat)) ∧ w' = w := by
  have HL : Aside (s.data.toList.length = s.size) := str_len s
  have HB : Aside (Tp.beh (s.data.toList.drop k) 1 = (n, true)) := hb
  have HJ : k < s.size := by have := (beh_true hb).1; rw [HL.out] at this; exact this
  clear hb
  go_enter Tryz.func166, Tryz.ntmps166
  go_wp2_with fail
  go_loopg [1, 5] n (fun g t mv wr => ∃ j m : Nat, wr = w ∧ t = .int .i64 j ∧ mv = .int .i64 m ∧ j + g = k + n ∧ m ≤ j + 1 ∧ j ≤ s.size ∧ Aside (Tp.beh (s.data.toList.drop j) m = (g, true)))
  case atStart => exact ⟨k, 1, rfl, rfl, rfl, by omega, by omega, by omega, HB⟩
  case round =>
    obtain ⟨j, m, rfl, rfl, rfl, hjg, hmj, hjs, HS⟩ := hrel
    cases m with
    | zero =>
      have hg : gk = 0 := by have := HS.out; rw [Tp.beh_zero] at this; exact (Prod.mk.inj this).1.symm
      go_wp2_with fail
      go_ret
      exact ⟨ret_int (by omega), rfl⟩
    | succ m =>
      obtain ⟨hj, ha, n', rfl, h2⟩ := beh_true HS.out
      rw [HL.out] at hj
      have hj' : (j : Int) < (s.size : Int) := by omega
      have hBk := str_B s j hj
      have hj0 : (0 : Int) ≤ (j : Int) := by omega
      have had := Tp.ar_bd (Tp.B s.data.toList j)
      have hm0 : (0 : Int) < (((m + 1 : Nat) : Int)) := by omega
      have H2 : Aside (Tp.beh (s.data.toList.drop (j + 1)) (m + (Tp.ar (Tp.B s.data.toList j)).toNat) = (n', true)) := h2
      clear h2
      go_wp2_with (go_at_call 161; refine (partsOf_any _ _).mono ?_; rintro e w' ⟨rfl, rfl⟩)
      go_roundg n'
      case measure => omega
      case rel => exact ⟨j + 1, m + (Tp.ar (Tp.B s.data.toList j)).toNat, rfl, by go_num, by go_num, by omega, by omega, by omega, H2⟩

set_option maxHeartbeats 400000 in
theorem parts_no (s : ByteArray) (h : (Tp.chk s.data.toList).1 ≠ 0) (w : World) :
    Calls Tryz.prog 125 #[.string s] w fun e w' => e = .returned (.slice none 0 0) ∧ w' = w := by
  go_enter Tryz.func125, Tryz.ntmps125
  go_wp2_with (go_at_call 164; refine (isType_no _ h _).mono ?_; rintro e w' ⟨rfl, rfl⟩)
  go_ret
  exact ⟨rfl, rfl⟩

set_option maxHeartbeats 1000000 in
theorem parts_yes (t : Tp.Ty) (h : (Tp.enc t).length ≤ 64) (w : World) :
    Calls Tryz.prog 125 #[.string (S (Tp.enc t))] w fun e w' => ∃ v, e = .returned v ∧ w'.ownsRow w.heap.size 9 1 v (Tp.kids t).length (tcells ((Tp.kids t).map Tp.enc)) ∧ Below w.heap.size w w' := by
  have hc : (Tp.chk (S (Tp.enc t)).data.toList).1 = 0 := by rw [S_list, Tp.chk_enc t h]
  have hsz : (S (Tp.enc t)).size ≤ 64 := by rw [S_size]; exact h
  have HE : Aside (Tp.enc t = Tp.hd t :: Tp.encs (Tp.kids t)) := Tp.enc_eq t
  have HZ : Aside ((S (Tp.enc t)).size = (Tp.enc t).length) := S_size _
  obtain ⟨i0, hi, hz0, hz1, hz2⟩ := info_parts info9
  go_enter Tryz.func125, Tryz.ntmps125
  go_wp2_with (go_at_call 164; refine (isType_yes _ hc _).mono ?_; rintro e w' ⟨rfl, hw'⟩; replace hw' := hw'.symm; subst hw')
  go_loopg [3, 4] (Tp.kids t).length (fun g v fv wr => ∃ (ds ks : List Tp.Ty), Aside (Tp.kids t = ds ++ ks) ∧ ks.length = g ∧ ds.length ≤ 2 ∧ fv = .int .i64 ((1 + (Tp.encs ds).length : Nat) : Int) ∧ wr.ownsRow w.heap.size 9 1 v ds.length (tcells (ds.map Tp.enc)) ∧ Below w.heap.size w wr)
  case atStart => exact ⟨[], Tp.kids t, rfl, rfl, by simp, rfl, own_nil _ _ _ _, Below.refl _ _⟩
  case round =>
    obtain ⟨ds, ks, HK, hg, hd2, rfl, hown, hB⟩ := hrel
    have hBs := hB.size
    obtain ⟨va, vc, rfl⟩ := own_len hown
    have HD : Aside ((Tp.enc t).drop (1 + (Tp.encs ds).length) = Tp.encs ks) := by
      show _ = _
      rw [HE.out, HK.out, Nat.add_comm, List.drop_succ_cons]
      simp [Tp.encs]
    cases ks with
    | nil =>
      have hl : ¬ ((1 + (Tp.encs ds).length : Nat) : Int) < ((S (Tp.enc t)).size : Int) := by
        have h1 := HE.out
        rw [HK.out, List.append_nil] at h1
        rw [HZ.out, h1]
        simp; omega
      go_wp2_with fail
      go_ret
      refine ⟨_, rfl, ?_, hB⟩
      rw [HK.out, List.append_nil]
      exact hown
    | cons u ks =>
      have hdd := HD.out
      rw [Tp.encs_cons] at hdd
      have hb : Tp.beh ((S (Tp.enc t)).data.toList.drop (1 + (Tp.encs ds).length)) 1 = ((Tp.enc u).length, true) := by
        rw [S_list, hdd, Tp.beh_enc, Tp.beh_zero]; rfl
      have hlen : 1 + (Tp.encs ds).length + (Tp.enc u).length ≤ (S (Tp.enc t)).size := by
        rw [HZ.out]
        have := congrArg List.length hdd
        have hp := Tp.enc_pos u
        simp at this
        omega
      have hl : ((1 + (Tp.encs ds).length : Nat) : Int) < ((S (Tp.enc t)).size : Int) := by
        have hp := Tp.enc_pos u
        omega
      have HC : Aside ((S (Tp.enc t)).extract (1 + (Tp.encs ds).length) (1 + (Tp.encs ds).length + (Tp.enc u).length) = S (Tp.enc u)) := by
        show _ = _
        rw [S_cut, hdd, show 1 + (Tp.encs ds).length + (Tp.enc u).length - (1 + (Tp.encs ds).length) = (Tp.enc u).length by omega, List.take_left' rfl]
      clear hdd
      generalize hk : 1 + (Tp.encs ds).length = k at *
      generalize hn : (Tp.enc u).length = n at *
      generalize hs : S (Tp.enc t) = s at *
      have hk0 : (0 : Int) ≤ (k : Int) := by omega
      go_wp2_with (first | (go_at_call 166; refine (endOf_any _ hsz _ _ hb _).mono ?_; rintro e w' ⟨rfl, hw'⟩; replace hw' := hw'.symm; subst hw') | (at_builtin; go_must (refine wpList_append_own _ rfl _ _ 63 rfl w.heap.size 9 i0 (.string ⟨#[]⟩) 1 16 ty31 hi hz0 hz1 hz2 rfl (by decide) (.slice va ds.length vc) _ _ rfl (hown.alloc _) ⟨wr.heap.size, 0, none⟩ 1 1 [.string (s.extract k (k + n))] rfl rfl (cells_list_new _ [.string (s.extract k (k + n))] 9) (fun u hu => by simp at hu; subst hu; rfl) (by unfold maxLen; omega) (by omega) (by simp; omega) ?_); intro v2 w2 hown2 hg2 _))
      go_roundg ks.length
      case measure => simp at hg; omega
      case rel =>
        refine ⟨ds ++ [u], ks, by show _ = _; rw [HK.out]; simp, rfl, ?_, ?_, ?_, hB.grown (grownBy_alloc_pre hg2) hBs (fun x e => (hown.lt x e).1)⟩
        · have h1 := congrArg List.length HK.out
          have h2 : (Tp.kids t).length ≤ 2 := by cases t <;> simp [Tp.kids]
          simp at h1 ⊢; omega
        · rw [show Tp.encs (ds ++ [u]) = Tp.encs ds ++ Tp.enc u by simp [Tp.encs], List.length_append, hn]
          go_num
        · rw [HC.out] at hown2
          rw [List.map_append, tcells_append, List.length_append]
          exact hown2
end Go.Proofs.YtkmoeflodafoeaaGreatDoor.T3
