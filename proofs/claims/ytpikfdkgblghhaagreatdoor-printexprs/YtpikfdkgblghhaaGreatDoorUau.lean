/- The document's words of a type; annotations. -/
import Derived.Test.YtpikfdkgblghhaaGreatDoorUat
import Derived.Test.YtpikfdkgblghhaaGreatDoorUao
import Derived.BigQuiet
namespace Go.Proofs.YtpikfdkgblghhaaGreatDoor
open Go.RowKit Pn
set_option maxRecDepth 100000
set_option linter.unusedSimpArgs false
set_option linter.unusedVariables false
namespace Pn
theorem ty_head (t : T3.Tp.Ty) : 0 < (S (T3.Tp.enc t)).size ∧ ∀ h : 0 < (S (T3.Tp.enc t)).size, ((S (T3.Tp.enc t))[0]'h).toNat = (T3.Tp.hd t).toNat := T3.S_head t
theorem ty_end (c : UInt8) (a : T3.Tp.Ty) (r : List UInt8) (hl : (c :: (T3.Tp.enc a ++ r)).length ≤ 64) (w : World) :
    Calls Tryz.prog 117 #[.string (S (c :: (T3.Tp.enc a ++ r))), .int .i64 1] w fun e w' => e = .returned (.int .i64 ((1 + (T3.Tp.enc a).length : Nat) : Int)) ∧ w' = w :=
  T3.typeEnd_at (S (c :: (T3.Tp.enc a ++ r))) (by rw [S_size]; exact hl) 1 (T3.Tp.enc a).length (by rw [S_list, List.drop_succ_cons, List.drop_zero, T3.Tp.beh_enc, T3.Tp.beh_zero]; rfl) w
theorem ty_snd (c : UInt8) (a : T3.Tp.Ty) (r : List UInt8) : 1 < (S (c :: (T3.Tp.enc a ++ r))).size ∧ ∀ h : 1 < (S (c :: (T3.Tp.enc a ++ r))).size, ((S (c :: (T3.Tp.enc a ++ r)))[1]'h).toNat = (T3.Tp.hd a).toNat := by
  have hp := T3.Tp.enc_pos a
  refine ⟨by rw [S_size]; simp; omega, fun h => ?_⟩
  have := T3.Tp.enc_eq a
  show (((c :: (T3.Tp.enc a ++ r)).toArray)[1]'(by simpa [S, ByteArray.size] using h)).toNat = _
  simp [this]
theorem ty_f (a : T3.Tp.Ty) : ((T3.Tp.hd a).toNat == 62) = T3.Tp.isF a := by cases a <;> rfl
theorem sub_from (l : List UInt8) (k : Nat) : (S l).extract k (S l).size = S (l.drop k) := by
  rw [S_cut, S_size, List.take_of_length_le (by simp)]
theorem S_add (a b : List UInt8) : S a ++ S b = S (a ++ b) := str_app a b
end Pn

set_option maxHeartbeats 1000000 in
theorem refType_ti (w : World) : Calls Tryz.prog 72 #[.string (S (T3.Tp.enc .ti))] w fun e w' => e = .returned (.string (S (T3.Tp.wd .ti))) ∧ ∃ m, w' = w.drewN m := by
  obtain ⟨hp, hh⟩ := ty_head .ti
  have hp' : (0 : Int) < ((S (T3.Tp.enc .ti)).size : Int) := by omega
  have hh' : ((S (T3.Tp.enc .ti))[0]'hp).toNat = 105 := hh hp
  clear hh
  generalize S (T3.Tp.enc .ti) = s at *
  go_enter Tryz.func72, Tryz.ntmps72
  go_wp2_with fail
  go_ret
  exact ⟨rfl, 0, rfl⟩

set_option maxHeartbeats 1000000 in
theorem refType_tb (w : World) : Calls Tryz.prog 72 #[.string (S (T3.Tp.enc .tb))] w fun e w' => e = .returned (.string (S (T3.Tp.wd .tb))) ∧ ∃ m, w' = w.drewN m := by
  obtain ⟨hp, hh⟩ := ty_head .tb
  have hp' : (0 : Int) < ((S (T3.Tp.enc .tb)).size : Int) := by omega
  have hh' : ((S (T3.Tp.enc .tb))[0]'hp).toNat = 98 := hh hp
  clear hh
  generalize S (T3.Tp.enc .tb) = s at *
  go_enter Tryz.func72, Tryz.ntmps72
  go_wp2_with fail
  go_ret
  exact ⟨rfl, 0, rfl⟩

set_option maxHeartbeats 1000000 in
theorem refType_tt (w : World) : Calls Tryz.prog 72 #[.string (S (T3.Tp.enc .tt))] w fun e w' => e = .returned (.string (S (T3.Tp.wd .tt))) ∧ ∃ m, w' = w.drewN m := by
  obtain ⟨hp, hh⟩ := ty_head .tt
  have hp' : (0 : Int) < ((S (T3.Tp.enc .tt)).size : Int) := by omega
  have hh' : ((S (T3.Tp.enc .tt))[0]'hp).toNat = 116 := hh hp
  clear hh
  generalize S (T3.Tp.enc .tt) = s at *
  go_enter Tryz.func72, Tryz.ntmps72
  go_wp2_with fail
  go_ret
  exact ⟨rfl, 0, rfl⟩

set_option maxHeartbeats 1000000 in
theorem refType_tq (w : World) : Calls Tryz.prog 72 #[.string (S (T3.Tp.enc .tq))] w fun e w' => e = .returned (.string (S (T3.Tp.wd .tq))) ∧ ∃ m, w' = w.drewN m := by
  obtain ⟨hp, hh⟩ := ty_head .tq
  have hp' : (0 : Int) < ((S (T3.Tp.enc .tq)).size : Int) := by omega
  have hh' : ((S (T3.Tp.enc .tq))[0]'hp).toNat = 63 := hh hp
  clear hh
  generalize S (T3.Tp.enc .tq) = s at *
  go_enter Tryz.func72, Tryz.ntmps72
  go_wp2_with fail
  go_ret
  exact ⟨rfl, 0, rfl⟩

set_option maxHeartbeats 4000000 in
theorem refType_any (t : T3.Tp.Ty) : (T3.Tp.enc t).length ≤ 64 → ∀ w, Calls Tryz.prog 72 #[.string (S (T3.Tp.enc t))] w fun e w' => e = .returned (.string (S (T3.Tp.wd t))) ∧ ∃ m, w' = w.drewN m := by
  induction t with
  | ti => exact fun _ w => refType_ti w
  | tb => exact fun _ w => refType_tb w
  | tt => exact fun _ w => refType_tt w
  | tq => exact fun _ w => refType_tq w
  | tl a ih =>
    intro hl w
    have hl' : (T3.Tp.enc a).length ≤ 63 := by simp [T3.Tp.enc] at hl; omega
    have hta := ih (by omega)
    have hwa := T3.Tp.wd_len a
    have hsa : (S (T3.Tp.wd a)).size ≤ 640 := by rw [S_size]; omega
    obtain ⟨hp, hh⟩ := ty_head (.tl a)
    have hp' : (0 : Int) < ((S (T3.Tp.enc (.tl a))).size : Int) := by omega
    have hh' : ((S (T3.Tp.enc (.tl a)))[0]'hp).toNat = 108 := hh hp
    have hsz : (S (T3.Tp.enc (.tl a))).size ≤ 64 := by rw [S_size]; exact hl
    have HC : (S (T3.Tp.enc (.tl a))).extract 1 (S (T3.Tp.enc (.tl a))).size = S (T3.Tp.enc a) := sub_from _ 1
    have HE : Aside (S [91] ++ S (T3.Tp.wd a) ++ S [93] = S (T3.Tp.wd (.tl a))) := by show _ = _; rw [S_add, S_add]; rfl
    clear hh ih hl hl' hwa
    generalize S (T3.Tp.wd (.tl a)) = q at *
    generalize S (T3.Tp.enc (.tl a)) = s at *
    generalize S (T3.Tp.enc a) = sa at *
    generalize S (T3.Tp.wd a) = qa at *
    go_enter Tryz.func72, Tryz.ntmps72
    go_wp2_with (go_at_call 72; refine (hta _).mono ?_; rintro e w' ⟨rfl, m, rfl⟩)
    go_ret
    exact ⟨by rw [← HE.out]; rfl, _, rfl⟩
  | tx a ih =>
    intro hl w
    have hl' : (T3.Tp.enc a).length ≤ 63 := by simp [T3.Tp.enc] at hl; omega
    have hta := ih (by omega)
    have hwa := T3.Tp.wd_len a
    have hsa : (S (T3.Tp.wd a)).size ≤ 640 := by rw [S_size]; omega
    obtain ⟨hp, hh⟩ := ty_head (.tx a)
    have hp' : (0 : Int) < ((S (T3.Tp.enc (.tx a))).size : Int) := by omega
    have hh' : ((S (T3.Tp.enc (.tx a)))[0]'hp).toNat = 120 := hh hp
    have hsz : (S (T3.Tp.enc (.tx a))).size ≤ 64 := by rw [S_size]; exact hl
    have HC : (S (T3.Tp.enc (.tx a))).extract 1 (S (T3.Tp.enc (.tx a))).size = S (T3.Tp.enc a) := sub_from _ 1
    have e0 : T3.Tp.enc (.tx a) = 120 :: (T3.Tp.enc a ++ []) := by simp [T3.Tp.enc]
    have h2 := ty_snd 120 a []
    rw [← e0] at h2
    obtain ⟨hq, hs2⟩ := h2
    have hq' : (1 : Int) < ((S (T3.Tp.enc (.tx a))).size : Int) := by omega
    have hs2' := hs2 hq
    have hF := ty_f a
    cases hf : T3.Tp.isF a with
    | true =>
      rw [hf] at hF
      have hF' : (((T3.Tp.hd a).toNat : Int) == 62) = true := by
        have h := hF
        simp at h ⊢
        omega
      have HE : Aside (S [98, 111, 120, 32, 40] ++ S (T3.Tp.wd a) ++ S [41] = S (T3.Tp.wd (.tx a))) := by show _ = _; rw [S_add, S_add]; simp [T3.Tp.wd, T3.Tp.par, hf]
      clear hh ih hl hl' hwa e0 hs2 hF hf
      generalize S (T3.Tp.wd (.tx a)) = q at *
      generalize S (T3.Tp.enc (.tx a)) = s at *
      generalize S (T3.Tp.enc a) = sa at *
      generalize S (T3.Tp.wd a) = qa at *
      generalize (T3.Tp.hd a).toNat = h2 at *
      go_enter Tryz.func72, Tryz.ntmps72
      go_wp2_with (go_at_call 72; refine (hta _).mono ?_; rintro e w' ⟨rfl, m, rfl⟩)
      go_ret
      exact ⟨by rw [← HE.out]; rfl, _, rfl⟩
    | false =>
      rw [hf] at hF
      have hF' : (((T3.Tp.hd a).toNat : Int) == 62) = false := by
        have h := hF
        simp at h ⊢
        omega
      have HE : Aside (S [98, 111, 120, 32] ++ S (T3.Tp.wd a) = S (T3.Tp.wd (.tx a))) := by show _ = _; rw [S_add]; simp [T3.Tp.wd, T3.Tp.par, hf]
      clear hh ih hl hl' hwa e0 hs2 hF hf
      generalize S (T3.Tp.wd (.tx a)) = q at *
      generalize S (T3.Tp.enc (.tx a)) = s at *
      generalize S (T3.Tp.enc a) = sa at *
      generalize S (T3.Tp.wd a) = qa at *
      generalize (T3.Tp.hd a).toNat = h2 at *
      go_enter Tryz.func72, Tryz.ntmps72
      go_wp2_with (go_at_call 72; refine (hta _).mono ?_; rintro e w' ⟨rfl, m, rfl⟩)
      go_ret
      exact ⟨by rw [← HE.out]; rfl, _, rfl⟩
  | tf a b iha ihb =>
    intro hl w
    have hl' : (T3.Tp.enc a).length + (T3.Tp.enc b).length ≤ 63 := by simp [T3.Tp.enc] at hl; omega
    have hta := iha (by omega)
    have htb := ihb (by omega)
    have hpa := T3.Tp.enc_pos a
    have hwa := T3.Tp.wd_len a
    have hsa : (S (T3.Tp.wd a)).size ≤ 640 := by rw [S_size]; omega
    have hwb := T3.Tp.wd_len b
    have hsb : (S (T3.Tp.wd b)).size ≤ 640 := by rw [S_size]; omega
    obtain ⟨hp, hh⟩ := ty_head (.tf a b)
    have hp' : (0 : Int) < ((S (T3.Tp.enc (.tf a b))).size : Int) := by omega
    have hh' : ((S (T3.Tp.enc (.tf a b)))[0]'hp).toNat = 62 := hh hp
    have hsz : (S (T3.Tp.enc (.tf a b))).size ≤ 64 := by rw [S_size]; exact hl
    have hte := ty_end 62 a (T3.Tp.enc b) hl
    have h2 := ty_snd 62 a (T3.Tp.enc b)
    have e0 : 62 :: (T3.Tp.enc a ++ T3.Tp.enc b) = T3.Tp.enc (.tf a b) := rfl
    rw [e0] at hte h2
    obtain ⟨hq, hs2⟩ := h2
    have hq' : (1 : Int) < ((S (T3.Tp.enc (.tf a b))).size : Int) := by omega
    have hs2' := hs2 hq
    have hkl : 1 + (T3.Tp.enc a).length ≤ (S (T3.Tp.enc (.tf a b))).size := by rw [S_size]; simp [T3.Tp.enc]; omega
    have hk1 : (1 : Int) ≤ ((1 + (T3.Tp.enc a).length : Nat) : Int) := by omega
    have hk2 : ((1 + (T3.Tp.enc a).length : Nat) : Int) ≤ ((S (T3.Tp.enc (.tf a b))).size : Int) := by omega
    have HCa : (S (T3.Tp.enc (.tf a b))).extract 1 (1 + (T3.Tp.enc a).length) = S (T3.Tp.enc a) := by rw [S_cut, ← e0]; simp
    have HCb : (S (T3.Tp.enc (.tf a b))).extract (1 + (T3.Tp.enc a).length) (S (T3.Tp.enc (.tf a b))).size = S (T3.Tp.enc b) := by rw [sub_from, ← e0, Nat.add_comm, List.drop_succ_cons, List.drop_left' rfl]
    have hF := ty_f a
    cases hf : T3.Tp.isF a with
    | true =>
      rw [hf] at hF
      have hF' : (((T3.Tp.hd a).toNat : Int) == 62) = true := by
        have h := hF
        simp at h ⊢
        omega
      have HE : Aside (S [40] ++ S (T3.Tp.wd a) ++ S [41, 32, 45, 62, 32] ++ S (T3.Tp.wd b) = S (T3.Tp.wd (.tf a b))) := by show _ = _; rw [S_add, S_add, S_add]; simp [T3.Tp.wd, T3.Tp.par, hf]
      clear hh iha ihb hl hl' hwa hwb e0 hs2 hF hf
      generalize S (T3.Tp.wd (.tf a b)) = q at *
      generalize S (T3.Tp.enc (.tf a b)) = s at *
      generalize S (T3.Tp.enc a) = sa at *
      generalize S (T3.Tp.wd a) = qa at *
      generalize S (T3.Tp.enc b) = sb at *
      generalize S (T3.Tp.wd b) = qb at *
      generalize (T3.Tp.hd a).toNat = h2 at *
      generalize 1 + (T3.Tp.enc a).length = k at *
      go_enter Tryz.func72, Tryz.ntmps72
      go_wp2_with (go_at_call 117; refine (hte _).mono ?_; rintro e w' ⟨rfl, hw'⟩; replace hw' := hw'.symm; subst hw')
      go_quiet (first | (go_at_call_of 72 sa; exact Calls.quiet_of (hta _)) | (go_at_call_of 72 sb; exact Calls.quiet_of (htb _)))
      go_wp2_with fail
      go_ret
      exact ⟨by rw [← HE.out]; rfl, _, rfl⟩
    | false =>
      rw [hf] at hF
      have hF' : (((T3.Tp.hd a).toNat : Int) == 62) = false := by
        have h := hF
        simp at h ⊢
        omega
      have HE : Aside (S (T3.Tp.wd a) ++ S [32, 45, 62, 32] ++ S (T3.Tp.wd b) = S (T3.Tp.wd (.tf a b))) := by show _ = _; rw [S_add, S_add]; simp [T3.Tp.wd, T3.Tp.par, hf]
      clear hh iha ihb hl hl' hwa hwb e0 hs2 hF hf
      generalize S (T3.Tp.wd (.tf a b)) = q at *
      generalize S (T3.Tp.enc (.tf a b)) = s at *
      generalize S (T3.Tp.enc a) = sa at *
      generalize S (T3.Tp.wd a) = qa at *
      generalize S (T3.Tp.enc b) = sb at *
      generalize S (T3.Tp.wd b) = qb at *
      generalize (T3.Tp.hd a).toNat = h2 at *
      generalize 1 + (T3.Tp.enc a).length = k at *
      go_enter Tryz.func72, Tryz.ntmps72
      go_wp2_with (go_at_call 117; refine (hte _).mono ?_; rintro e w' ⟨rfl, hw'⟩; replace hw' := hw'.symm; subst hw')
      go_quiet (first | (go_at_call_of 72 sa; exact Calls.quiet_of (hta _)) | (go_at_call_of 72 sb; exact Calls.quiet_of (htb _)))
      go_wp2_with fail
      go_ret
      exact ⟨by rw [← HE.out]; rfl, _, rfl⟩
  | tp a b iha ihb =>
    intro hl w
    have hl' : (T3.Tp.enc a).length + (T3.Tp.enc b).length ≤ 63 := by simp [T3.Tp.enc] at hl; omega
    have hta := iha (by omega)
    have htb := ihb (by omega)
    have hpa := T3.Tp.enc_pos a
    have hwa := T3.Tp.wd_len a
    have hsa : (S (T3.Tp.wd a)).size ≤ 640 := by rw [S_size]; omega
    have hwb := T3.Tp.wd_len b
    have hsb : (S (T3.Tp.wd b)).size ≤ 640 := by rw [S_size]; omega
    obtain ⟨hp, hh⟩ := ty_head (.tp a b)
    have hp' : (0 : Int) < ((S (T3.Tp.enc (.tp a b))).size : Int) := by omega
    have hh' : ((S (T3.Tp.enc (.tp a b)))[0]'hp).toNat = 44 := hh hp
    have hsz : (S (T3.Tp.enc (.tp a b))).size ≤ 64 := by rw [S_size]; exact hl
    have hte := ty_end 44 a (T3.Tp.enc b) hl
    have h2 := ty_snd 44 a (T3.Tp.enc b)
    have e0 : 44 :: (T3.Tp.enc a ++ T3.Tp.enc b) = T3.Tp.enc (.tp a b) := rfl
    rw [e0] at hte h2
    obtain ⟨hq, hs2⟩ := h2
    have hq' : (1 : Int) < ((S (T3.Tp.enc (.tp a b))).size : Int) := by omega
    have hs2' := hs2 hq
    have hkl : 1 + (T3.Tp.enc a).length ≤ (S (T3.Tp.enc (.tp a b))).size := by rw [S_size]; simp [T3.Tp.enc]; omega
    have hk1 : (1 : Int) ≤ ((1 + (T3.Tp.enc a).length : Nat) : Int) := by omega
    have hk2 : ((1 + (T3.Tp.enc a).length : Nat) : Int) ≤ ((S (T3.Tp.enc (.tp a b))).size : Int) := by omega
    have HCa : (S (T3.Tp.enc (.tp a b))).extract 1 (1 + (T3.Tp.enc a).length) = S (T3.Tp.enc a) := by rw [S_cut, ← e0]; simp
    have HCb : (S (T3.Tp.enc (.tp a b))).extract (1 + (T3.Tp.enc a).length) (S (T3.Tp.enc (.tp a b))).size = S (T3.Tp.enc b) := by rw [sub_from, ← e0, Nat.add_comm, List.drop_succ_cons, List.drop_left' rfl]
    have hF := ty_f a
    have HE : Aside (S [40] ++ S (T3.Tp.wd a) ++ S [44, 32] ++ S (T3.Tp.wd b) ++ S [41] = S (T3.Tp.wd (.tp a b))) := by show _ = _; rw [S_add, S_add, S_add, S_add]; simp [T3.Tp.wd]
    clear hh iha ihb hl hl' hwa hwb e0 hs2 hF
    generalize S (T3.Tp.wd (.tp a b)) = q at *
    generalize S (T3.Tp.enc (.tp a b)) = s at *
    generalize S (T3.Tp.enc a) = sa at *
    generalize S (T3.Tp.wd a) = qa at *
    generalize S (T3.Tp.enc b) = sb at *
    generalize S (T3.Tp.wd b) = qb at *
    generalize (T3.Tp.hd a).toNat = h2 at *
    generalize 1 + (T3.Tp.enc a).length = k at *
    go_enter Tryz.func72, Tryz.ntmps72
    go_wp2_with (go_at_call 117; refine (hte _).mono ?_; rintro e w' ⟨rfl, hw'⟩; replace hw' := hw'.symm; subst hw')
    go_quiet (first | (go_at_call_of 72 sa; exact Calls.quiet_of (hta _)) | (go_at_call_of 72 sb; exact Calls.quiet_of (htb _)))
    go_wp2_with fail
    go_ret
    exact ⟨by rw [← HE.out]; rfl, _, rfl⟩

set_option maxHeartbeats 1000000 in
theorem refNote_any (s : ByteArray) (h : noteB s.data.toList = true) (w : World) :
    Calls Tryz.prog 36 #[.string s] w fun e w' => e = .returned (.string (S (note s.data.toList))) ∧ ∃ m, w' = w.drewN m := by
  by_cases h0 : s.data.toList = []
  · have hs : s = S [] := by rw [S_of s, h0]
    subst hs
    have he : (S []).toList.isEmpty = true := by rw [toList_S]; rfl
    have HN : Aside (S (note (S []).data.toList) = S []) := by show _ = _; rw [S_list, note_nil]
    go_enter Tryz.func36, Tryz.ntmps36
    go_wp2_with fail
    go_ret
    exact ⟨by rw [HN.out]; rfl, 0, rfl⟩
  · have ht : typB s.data.toList = true := by
      unfold noteB at h
      rcases Bool.or_eq_true _ _ ▸ h with e | e
      · exact absurd (List.isEmpty_iff.1 e) h0
      · exact e
    obtain ⟨t, hst, hl⟩ := typ_enc ht
    have hs : s = S (T3.Tp.enc t) := by rw [S_of s, hst]
    subst hs
    have hne : T3.Tp.enc t ≠ [] := by rw [S_list] at h0; exact h0
    have he : (S (T3.Tp.enc t)).toList.isEmpty = false := by rw [toList_S]; simpa using hne
    have HN : Aside (S (note (S (T3.Tp.enc t)).data.toList) = S [32, 58, 32] ++ S (T3.Tp.wd t)) := by show _ = _; rw [S_list, note_enc, S_add]
    have hwl := T3.Tp.wd_len t
    have hws : (S (T3.Tp.wd t)).size ≤ 640 := by rw [S_size]; omega
    have hT := refType_any t hl
    clear h0 hst ht h hwl hne
    generalize S (note (S (T3.Tp.enc t)).data.toList) = q at *
    generalize S (T3.Tp.enc t) = s1 at *
    generalize S (T3.Tp.wd t) = s2 at *
    go_enter Tryz.func36, Tryz.ntmps36
    go_wp2_with (go_at_call 72; refine (hT _).mono ?_; rintro e w' ⟨rfl, m, rfl⟩)
    go_ret
    exact ⟨by rw [HN.out]; rfl, _, rfl⟩
end Go.Proofs.YtpikfdkgblghhaaGreatDoor
