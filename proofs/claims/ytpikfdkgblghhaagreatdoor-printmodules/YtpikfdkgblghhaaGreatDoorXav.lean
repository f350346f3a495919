/- The document's words of a type; annotations. Node: lists, words, what is written with an annotation. Functions: what is written ahead of the body. Node: functions, lets. -/
import Derived.Test.YtpikfdkgblghhaaGreatDoorXat
import Derived.Test.YtpikfdkgblghhaaGreatDoorXao
import Derived.BigQuiet
namespace Go.Proofs.YtpikfdkgblghhaaGreatDoor
open Go.RowKit Pn
set_option maxRecDepth 100000
set_option linter.unusedSimpArgs false
set_option linter.unusedVariables false
namespace Pn
theorem ty_head (t : T3.Tp.Ty) : 0 < (S (T3.Tp.enc t)).size ∧ ∀ h : 0 < (S (T3.Tp.enc t)).size, ((S (T3.Tp.enc t))[0]'h).toNat = (T3.Tp.hd t).toNat := T3.S_head t
theorem ty_end (c : UInt8) (a : T3.Tp.Ty) (r : List UInt8) (hl : (c :: (T3.Tp.enc a ++ r)).length ≤ 64) (w : World) :
    Calls Tryz.prog 117 #[.string (S (c :: (T3.Tp.enc a ++ r))), .int .i64 1] w fun e w' => e = .returned (.int .i64 ((1 + (T3.Tp.enc a).length : Nat) : Int)) ∧ w' = w :=
  T3.typeEnd_at (S (c :: (T3.Tp.enc a ++ r))) (by rw [S_size]; exact hl) 1 (T3.Tp.enc a).length (by rw [S_list, List.drop_succ_cons, List.drop_zero, T3.Tp.beh_enc, T3.Tp.beh_zero]; rfl) w
theorem ty_snd (c : UInt8) (a : T3.Tp.Ty) (r : List UInt8) : 1 < (S (c :: (T3.Tp.enc a ++ r))).size ∧ ∀ h : 1 < (S (c :: (T3.Tp.enc a ++ r))).size, ((S (c :: (T3.Tp.enc a ++ r)))[1]'h).toNat = (T3.Tp.hd a).toNat := by
  have hp := T3.Tp.enc_pos a
  refine ⟨by rw [S_size]; simp; omega, fun h => ?_⟩
  have := T3.Tp.enc_eq a
  show (((c :: (T3.Tp.enc a ++ r)).toArray)[1]'(by simpa [S, ByteArray.size] using h)).toNat = _
  simp [this]
theorem ty_f (a : T3.Tp.Ty) : ((T3.Tp.hd a).toNat == 62) = T3.Tp.isF a := by cases a <;> rfl
theorem sub_from (l : List UInt8) (k : Nat) : (S l).extract k (S l).size = S (l.drop k) := by
  rw [S_cut, S_size, List.take_of_length_le (by simp)]
theorem S_add (a b : List UInt8) : S a ++ S b = S (a ++ b) := str_app a b
end Pn

set_option maxHeartbeats 1000000 in
theorem refType_ti (w : World) : Calls Tryz.prog 72 #[.string (S (T3.Tp.enc .ti))] w fun e w' => e = .returned (.string (S (T3.Tp.wd .ti))) ∧ ∃ m, w' = w.drewN m := by
  obtain ⟨hp, hh⟩ := ty_head .ti
  have hp' : (0 : Int) < ((S (T3.Tp.enc .ti)).size : Int) := by omega
  have hh' : ((S (T3.Tp.enc .ti))[0]'hp).toNat = 105 := hh hp
  clear hh
  generalize S (T3.Tp.enc .ti) = s at *
  go_enter Tryz.func72, Tryz.ntmps72
  go_wp2_with fail
  go_ret
  exact ⟨rfl, 0, rfl⟩

set_option maxHeartbeats 1000000 in
theorem refType_tb (w : World) : Calls Tryz.prog 72 #[.string (S (T3.Tp.enc .tb))] w fun e w' => e = .returned (.string (S (T3.Tp.wd .tb))) ∧ ∃ m, w' = w.drewN m := by
  obtain ⟨hp, hh⟩ := ty_head .tb
  have hp' : (0 : Int) < ((S (T3.Tp.enc .tb)).size : Int) := by omega
  have hh' : ((S (T3.Tp.enc .tb))[0]'hp).toNat = 98 := hh hp
  clear hh
  generalize S (T3.Tp.enc .tb) = s at *
  go_enter Tryz.func72, Tryz.ntmps72
  go_wp2_with fail
  go_ret
  exact ⟨rfl, 0, rfl⟩

set_option maxHeartbeats 1000000 in
theorem refType_tt (w : World) : Calls Tryz.prog 72 #[.string (S (T3.Tp.enc .tt))] w fun e w' => e = .returned (.string (S (T3.Tp.wd .tt))) ∧ ∃ m, w' = w.drewN m := by
  obtain ⟨hp, hh⟩ := ty_head .tt
  have hp' : (0 : Int) < ((S (T3.Tp.enc .tt)).size : Int) := by omega
  have hh' : ((S (T3.Tp.enc .tt))[0]'hp).toNat = 116 := hh hp
  clear hh
  generalize S (T3.Tp.enc .tt) = s at *
  go_enter Tryz.func72, Tryz.ntmps72
  go_wp2_with fail
  go_ret
  exact ⟨rfl, 0, rfl⟩

set_option maxHeartbeats 1000000 in
theorem refType_tq (w : World) : Calls Tryz.prog 72 #[.string (S (T3.Tp.enc .tq))] w fun e w' => e = .returned (.string (S (T3.Tp.wd .tq))) ∧ ∃ m, w' = w.drewN m := by
  obtain ⟨hp, hh⟩ := ty_head .tq
  have hp' : (0 : Int) < ((S (T3.Tp.enc .tq)).size : Int) := by omega
  have hh' : ((S (T3.Tp.enc .tq))[0]'hp).toNat = 63 := hh hp
  clear hh
  generalize S (T3.Tp.enc .tq) = s at *
  go_enter Tryz.func72, Tryz.ntmps72
  go_wp2_with fail
  go_ret
  exact ⟨rfl, 0, rfl⟩

set_option maxHeartbeats 4000000 in
theorem refType_any (t : T3.Tp.Ty) : (T3.Tp.enc t).length ≤ 64 → ∀ w, Calls Tryz.prog 72 #[.string (S (T3.Tp.enc t))] w fun e w' => e = .returned (.string (S (T3.Tp.wd t))) ∧ ∃ m, w' = w.drewN m := by
  induction t with
  | ti => exact fun _ w => refType_ti w
  | tb => exact fun _ w => refType_tb w
  | tt => exact fun _ w => refType_tt w
  | tq => exact fun _ w => refType_tq w
  | tl a ih =>
    intro hl w
    have hl' : (T3.Tp.enc a).length ≤ 63 := by simp [T3.Tp.enc] at hl; omega
    have hta := ih (by omega)
    have hwa := T3.Tp.wd_len a
    have hsa : (S (T3.Tp.wd a)).size ≤ 640 := by rw [S_size]; omega
    obtain ⟨hp, hh⟩ := ty_head (.tl a)
    have hp' : (0 : Int) < ((S (T3.Tp.enc (.tl a))).size : Int) := by omega
    have hh' : ((S (T3.Tp.enc (.tl a)))[0]'hp).toNat = 108 := hh hp
    have hsz : (S (T3.Tp.enc (.tl a))).size ≤ 64 := by rw [S_size]; exact hl
    have HC : (S (T3.Tp.enc (.tl a))).extract 1 (S (T3.Tp.enc (.tl a))).size = S (T3.Tp.enc a) := sub_from _ 1
    have HE : Aside (S [91] ++ S (T3.Tp.wd a) ++ S [93] = S (T3.Tp.wd (.tl a))) := by show _ = _; rw [S_add, S_add]; rfl
    clear hh ih hl hl' hwa
    generalize S (T3.Tp.wd (.tl a)) = q at *
    generalize S (T3.Tp.enc (.tl a)) = s at *
    generalize S (T3.Tp.enc a) = sa at *
    generalize S (T3.Tp.wd a) = qa at *
    go_enter Tryz.func72, Tryz.ntmps72
    go_wp2_with (go_at_call 72; refine (hta _).mono ?_; rintro e w' ⟨rfl, m, rfl⟩)
    go_ret
    exact ⟨by rw [← HE.out]; rfl, _, rfl⟩
  | tx a ih =>
    intro hl w
    have hl' : (T3.Tp.enc a).length ≤ 63 := by simp [T3.Tp.enc] at hl; omega
    have hta := ih (by omega)
    have hwa := T3.Tp.wd_len a
    have hsa : (S (T3.Tp.wd a)).size ≤ 640 := by rw [S_size]; omega
    obtain ⟨hp, hh⟩ := ty_head (.tx a)
    have hp' : (0 : Int) < ((S (T3.Tp.enc (.tx a))).size : Int) := by omega
    have hh' : ((S (T3.Tp.enc (.tx a)))[0]'hp).toNat = 120 := hh hp
    have hsz : (S (T3.Tp.enc (.tx a))).size ≤ 64 := by rw [S_size]; exact hl
    have HC : (S (T3.Tp.enc (.tx a))).extract 1 (S (T3.Tp.enc (.tx a))).size = S (T3.Tp.enc a) := sub_from _ 1
    have e0 : T3.Tp.enc (.tx a) = 120 :: (T3.Tp.enc a ++ []) := by simp [T3.Tp.enc]
    have h2 := ty_snd 120 a []
    rw [← e0] at h2
    obtain ⟨hq, hs2⟩ := h2
    have hq' : (1 : Int) < ((S (T3.Tp.enc (.tx a))).size : Int) := by omega
    have hs2' := hs2 hq
    have hF := ty_f a
    cases hf : T3.Tp.isF a with
    | true =>
      rw [hf] at hF
      have hF' : (((T3.Tp.hd a).toNat : Int) == 62) = true := by
        have h := hF
        simp at h ⊢
        omega
      have HE : Aside (S [98, 111, 120, 32, 40] ++ S (T3.Tp.wd a) ++ S [41] = S (T3.Tp.wd (.tx a))) := by show _ = _; rw [S_add, S_add]; simp [T3.Tp.wd, T3.Tp.par, hf]
      clear hh ih hl hl' hwa e0 hs2 hF hf
      generalize S (T3.Tp.wd (.tx a)) = q at *
      generalize S (T3.Tp.enc (.tx a)) = s at *
      generalize S (T3.Tp.enc a) = sa at *
      generalize S (T3.Tp.wd a) = qa at *
      generalize (T3.Tp.hd a).toNat = h2 at *
      go_enter Tryz.func72, Tryz.ntmps72
      go_wp2_with (go_at_call 72; refine (hta _).mono ?_; rintro e w' ⟨rfl, m, rfl⟩)
      go_ret
      exact ⟨by rw [← HE.out]; rfl, _, rfl⟩
    | false =>
      rw [hf] at hF
      have hF' : (((T3.Tp.hd a).toNat : Int) == 62) = false := by
        have h := hF
        simp at h ⊢
        omega
      have HE : Aside (S [98, 111, 120, 32] ++ S (T3.Tp.wd a) = S (T3.Tp.wd (.tx a))) := by show _ = _; rw [S_add]; simp [T3.Tp.wd, T3.Tp.par, hf]
      clear hh ih hl hl' hwa e0 hs2 hF hf
      generalize S (T3.Tp.wd (.tx a)) = q at *
      generalize S (T3.Tp.enc (.tx a)) = s at *
      generalize S (T3.Tp.enc a) = sa at *
      generalize S (T3.Tp.wd a) = qa at *
      generalize (T3.Tp.hd a).toNat = h2 at *
      go_enter Tryz.func72, Tryz.ntmps72
      go_wp2_with (go_at_call 72; refine (hta _).mono ?_; rintro e w' ⟨rfl, m, rfl⟩)
      go_ret
      exact ⟨by rw [← HE.out]; rfl, _, rfl⟩
  | tf a b iha ihb =>
    intro hl w
    have hl' : (T3.Tp.enc a).length + (T3.Tp.enc b).length ≤ 63 := by simp [T3.Tp.enc] at hl; omega
    have hta := iha (by omega)
    have htb := ihb (by omega)
    have hpa := T3.Tp.enc_pos a
    have hwa := T3.Tp.wd_len a
    have hsa : (S (T3.Tp.wd a)).size ≤ 640 := by rw [S_size]; omega
    have hwb := T3.Tp.wd_len b
    have hsb : (S (T3.Tp.wd b)).size ≤ 640 := by rw [S_size]; omega
    obtain ⟨hp, hh⟩ := ty_head (.tf a b)
    have hp' : (0 : Int) < ((S (T3.Tp.enc (.tf a b))).size : Int) := by omega
    have hh' : ((S (T3.Tp.enc (.tf a b)))[0]'hp).toNat = 62 := hh hp
    have hsz : (S (T3.Tp.enc (.tf a b))).size ≤ 64 := by rw [S_size]; exact hl
    have hte := ty_end 62 a (T3.Tp.enc b) hl
    have h2 := ty_snd 62 a (T3.Tp.enc b)
    have e0 : 62 :: (T3.Tp.enc a ++ T3.Tp.enc b) = T3.Tp.enc (.tf a b) := rfl
    rw [e0] at hte h2
    obtain ⟨hq, hs2⟩ := h2
    have hq' : (1 : Int) < ((S (T3.Tp.enc (.tf a b))).size : Int) := by omega
    have hs2' := hs2 hq
    have hkl : 1 + (T3.Tp.enc a).length ≤ (S (T3.Tp.enc (.tf a b))).size := by rw [S_size]; simp [T3.Tp.enc]; omega
    have hk1 : (1 : Int) ≤ ((1 + (T3.Tp.enc a).length : Nat) : Int) := by omega
    have hk2 : ((1 + (T3.Tp.enc a).length : Nat) : Int) ≤ ((S (T3.Tp.enc (.tf a b))).size : Int) := by omega
    have HCa : (S (T3.Tp.enc (.tf a b))).extract 1 (1 + (T3.Tp.enc a).length) = S (T3.Tp.enc a) := by rw [S_cut, ← e0]; simp
    have HCb : (S (T3.Tp.enc (.tf a b))).extract (1 + (T3.Tp.enc a).length) (S (T3.Tp.enc (.tf a b))).size = S (T3.Tp.enc b) := by rw [sub_from, ← e0, Nat.add_comm, List.drop_succ_cons, List.drop_left' rfl]
    have hF := ty_f a
    cases hf : T3.Tp.isF a with
    | true =>
      rw [hf] at hF
      have hF' : (((T3.Tp.hd a).toNat : Int) == 62) = true := by
        have h := hF
        simp at h ⊢
        omega
      have HE : Aside (S [40] ++ S (T3.Tp.wd a) ++ S [41, 32, 45, 62, 32] ++ S (T3.Tp.wd b) = S (T3.Tp.wd (.tf a b))) := by show _ = _; rw [S_add, S_add, S_add]; simp [T3.Tp.wd, T3.Tp.par, hf]
      clear hh iha ihb hl hl' hwa hwb e0 hs2 hF hf
      generalize S (T3.Tp.wd (.tf a b)) = q at *
      generalize S (T3.Tp.enc (.tf a b)) = s at *
      generalize S (T3.Tp.enc a) = sa at *
      generalize S (T3.Tp.wd a) = qa at *
      generalize S (T3.Tp.enc b) = sb at *
      generalize S (T3.Tp.wd b) = qb at *
      generalize (T3.Tp.hd a).toNat = h2 at *
      generalize 1 + (T3.Tp.enc a).length = k at *
      go_enter Tryz.func72, Tryz.ntmps72
      go_wp2_with (go_at_call 117; refine (hte _).mono ?_; rintro e w' ⟨rfl, hw'⟩; replace hw' := hw'.symm; subst hw')
      go_quiet (first | (go_at_call_of 72 sa; exact Calls.quiet_of (hta _)) | (go_at_call_of 72 sb; exact Calls.quiet_of (htb _)))
      go_wp2_with fail
      go_ret
      exact ⟨by rw [← HE.out]; rfl, _, rfl⟩
    | false =>
      rw [hf] at hF
      have hF' : (((T3.Tp.hd a).toNat : Int) == 62) = false := by
        have h := hF
        simp at h ⊢
        omega
      have HE : Aside (S (T3.Tp.wd a) ++ S [32, 45, 62, 32] ++ S (T3.Tp.wd b) = S (T3.Tp.wd (.tf a b))) := by show _ = _; rw [S_add, S_add]; simp [T3.Tp.wd, T3.Tp.par, hf]
      clear hh iha ihb hl hl' hwa hwb e0 hs2 hF hf
      generalize S (T3.Tp.wd (.tf a b)) = q at *
      generalize S (T3.Tp.enc (.tf a b)) = s at *
      generalize S (T3.Tp.enc a) = sa at *
      generalize S (T3.Tp.wd a) = qa at *
      generalize S (T3.Tp.enc b) = sb at *
      generalize S (T3.Tp.wd b) = qb at *
      generalize (T3.Tp.hd a).toNat = h2 at *
      generalize 1 + (T3.Tp.enc a).length = k at *
      go_enter Tryz.func72, Tryz.ntmps72
      go_wp2_with (go_at_call 117; refine (hte _).mono ?_; rintro e w' ⟨rfl, hw'⟩; replace hw' := hw'.symm; subst hw')
      go_quiet (first | (go_at_call_of 72 sa; exact Calls.quiet_of (hta _)) | (go_at_call_of 72 sb; exact Calls.quiet_of (htb _)))
      go_wp2_with fail
      go_ret
      exact ⟨by rw [← HE.out]; rfl, _, rfl⟩
  | tp a b iha ihb =>
    intro hl w
    have hl' : (T3.Tp.enc a).length + (T3.Tp.enc b).length ≤ 63 := by simp [T3.Tp.enc] at hl; omega
    have hta := iha (by omega)
    have htb := ihb (by omega)
    have hpa := T3.Tp.enc_pos a
    have hwa := T3.Tp.wd_len a
    have hsa : (S (T3.Tp.wd a)).size ≤ 640 := by rw [S_size]; omega
    have hwb := T3.Tp.wd_len b
    have hsb : (S (T3.Tp.wd b)).size ≤ 640 := by rw [S_size]; omega
    obtain ⟨hp, hh⟩ := ty_head (.tp a b)
    have hp' : (0 : Int) < ((S (T3.Tp.enc (.tp a b))).size : Int) := by omega
    have hh' : ((S (T3.Tp.enc (.tp a b)))[0]'hp).toNat = 44 := hh hp
    have hsz : (S (T3.Tp.enc (.tp a b))).size ≤ 64 := by rw [S_size]; exact hl
    have hte := ty_end 44 a (T3.Tp.enc b) hl
    have h2 := ty_snd 44 a (T3.Tp.enc b)
    have e0 : 44 :: (T3.Tp.enc a ++ T3.Tp.enc b) = T3.Tp.enc (.tp a b) := rfl
    rw [e0] at hte h2
    obtain ⟨hq, hs2⟩ := h2
    have hq' : (1 : Int) < ((S (T3.Tp.enc (.tp a b))).size : Int) := by omega
    have hs2' := hs2 hq
    have hkl : 1 + (T3.Tp.enc a).length ≤ (S (T3.Tp.enc (.tp a b))).size := by rw [S_size]; simp [T3.Tp.enc]; omega
    have hk1 : (1 : Int) ≤ ((1 + (T3.Tp.enc a).length : Nat) : Int) := by omega
    have hk2 : ((1 + (T3.Tp.enc a).length : Nat) : Int) ≤ ((S (T3.Tp.enc (.tp a b))).size : Int) := by omega
    have HCa : (S (T3.Tp.enc (.tp a b))).extract 1 (1 + (T3.Tp.enc a).length) = S (T3.Tp.enc a) := by rw [S_cut, ← e0]; simp
    have HCb : (S (T3.Tp.enc (.tp a b))).extract (1 + (T3.Tp.enc a).length) (S (T3.Tp.enc (.tp a b))).size = S (T3.Tp.enc b) := by rw [sub_from, ← e0, Nat.add_comm, List.drop_succ_cons, List.drop_left' rfl]
    have hF := ty_f a
    have HE : Aside (S [40] ++ S (T3.Tp.wd a) ++ S [44, 32] ++ S (T3.Tp.wd b) ++ S [41] = S (T3.Tp.wd (.tp a b))) := by show _ = _; rw [S_add, S_add, S_add, S_add]; simp [T3.Tp.wd]
    clear hh iha ihb hl hl' hwa hwb e0 hs2 hF
    generalize S (T3.Tp.wd (.tp a b)) = q at *
    generalize S (T3.Tp.enc (.tp a b)) = s at *
    generalize S (T3.Tp.enc a) = sa at *
    generalize S (T3.Tp.wd a) = qa at *
    generalize S (T3.Tp.enc b) = sb at *
    generalize S (T3.Tp.wd b) = qb at *
    generalize (T3.Tp.hd a).toNat = h2 at *
    generalize 1 + (T3.Tp.enc a).length = k at *
    go_enter Tryz.func72, Tryz.ntmps72
    go_wp2_with (go_at_call 117; refine (hte _).mono ?_; rintro e w' ⟨rfl, hw'⟩; replace hw' := hw'.symm; subst hw')
    go_quiet (first | (go_at_call_of 72 sa; exact Calls.quiet_of (hta _)) | (go_at_call_of 72 sb; exact Calls.quiet_of (htb _)))
    go_wp2_with fail
    go_ret
    exact ⟨by rw [← HE.out]; rfl, _, rfl⟩

set_option maxHeartbeats 1000000 in
theorem refNote_any (s : ByteArray) (h : noteB s.data.toList = true) (w : World) :
    Calls Tryz.prog 36 #[.string s] w fun e w' => e = .returned (.string (S (note s.data.toList))) ∧ ∃ m, w' = w.drewN m := by
  by_cases h0 : s.data.toList = []
  · have hs : s = S [] := by rw [S_of s, h0]
    subst hs
    have he : (S []).toList.isEmpty = true := by rw [toList_S]; rfl
    have HN : Aside (S (note (S []).data.toList) = S []) := by show _ = _; rw [S_list, note_nil]
    go_enter Tryz.func36, Tryz.ntmps36
    go_wp2_with fail
    go_ret
    exact ⟨by rw [HN.out]; rfl, 0, rfl⟩
  · have ht : typB s.data.toList = true := by
      unfold noteB at h
      rcases Bool.or_eq_true _ _ ▸ h with e | e
      · exact absurd (List.isEmpty_iff.1 e) h0
      · exact e
    obtain ⟨t, hst, hl⟩ := typ_enc ht
    have hs : s = S (T3.Tp.enc t) := by rw [S_of s, hst]
    subst hs
    have hne : T3.Tp.enc t ≠ [] := by rw [S_list] at h0; exact h0
    have he : (S (T3.Tp.enc t)).toList.isEmpty = false := by rw [toList_S]; simpa using hne
    have HN : Aside (S (note (S (T3.Tp.enc t)).data.toList) = S [32, 58, 32] ++ S (T3.Tp.wd t)) := by show _ = _; rw [S_list, note_enc, S_add]
    have hwl := T3.Tp.wd_len t
    have hws : (S (T3.Tp.wd t)).size ≤ 640 := by rw [S_size]; omega
    have hT := refType_any t hl
    clear h0 hst ht h hwl hne
    generalize S (note (S (T3.Tp.enc t)).data.toList) = q at *
    generalize S (T3.Tp.enc t) = s1 at *
    generalize S (T3.Tp.wd t) = s2 at *
    go_enter Tryz.func36, Tryz.ntmps36
    go_wp2_with (go_at_call 72; refine (hT _).mono ?_; rintro e w' ⟨rfl, m, rfl⟩)
    go_ret
    exact ⟨by rw [HN.out]; rfl, _, rfl⟩
end Go.Proofs.YtpikfdkgblghhaaGreatDoor
namespace Go.Proofs.YtpikfdkgblghhaaGreatDoor
open Go.RowKit Pn
set_option maxRecDepth 100000
set_option linter.unusedSimpArgs false
set_option linter.unusedVariables false

set_option maxHeartbeats 4000000 in
theorem node_list (x : Tr.Nd) (ks : List Tr.T) (hx : x.kind = 21) (hg : GoodT (.nd x ks)) (hk : ∀ t ∈ ks, KidOk t) : NodeOk x ks := by
  intro pb L c rest w0 w h hlen
  obtain ⟨hnice, -, hgs⟩ := good_nice hg
  have h1 := h.alloc (.cells (Tr.ncells x).toArray 52)
  have hsz0 : (w.alloc (.cells (Tr.ncells x).toArray 52)).heap.size = w.heap.size + 1 := by simp
  have hkn := (good_nice hg).2.1
  have HF : Aside (L ++ ([91] ++ prs Lib.itoa 21 0 ks ++ [93]) = L ++ pr Lib.itoa (.nd x ks)) := by
    show _ = _
    simp [pr_nd, pcA, pcC, hx]
  have hln : ks.length ≤ (Tr.flats ks).length := by
    have : ∀ l : List Tr.T, l.length ≤ (Tr.flats l).length := by
      intro l
      induction l with
      | nil => simp
      | cons a r ih => have := Tr.flat_pos a; simp [Tr.flats]; omega
    exact this ks
  have hli := fun W hW => list_st pb L c ks rest w0 W hW hgs hk (by omega) (by omega)
  obtain ⟨kind, kids, n, s, t, u, ln, co⟩ := x
  simp only at hx
  subst hx
  simp only [Tr.agg]
  simp only [Tr.ncells] at h1 hsz0
  simp only at hkn
  subst hkn
  generalize L ++ pr Lib.itoa _ = FF at *
  generalize L ++ ([91] ++ prs Lib.itoa 21 0 ks ++ [93]) = GG at *
  clear hsz0 h hg hlen hnice hgs hk hln
  go_enter Tryz.func105, Tryz.ntmps105
  go_wp2_with (go_at_call 162; refine (hli _ h1).mono ?_; rintro e w1 ⟨rfl, c1, hS1⟩)
  go_end0
  exact ⟨rfl, c1, hS1.same HF.out⟩

set_option maxHeartbeats 4000000 in
theorem node_word (x : Tr.Nd) (ks : List Tr.T) (hx : x.kind = 26 ∨ x.kind = 17 ∨ x.kind = 19 ∨ x.kind = 20 ∨ x.kind = 22 ∨ x.kind = 23 ∨ x.kind = 24) (hg : GoodT (.nd x ks)) (hk : ∀ t ∈ ks, KidOk t) : NodeOk x ks := by
  intro pb L c rest w0 w h hlen
  obtain ⟨t1, rfl⟩ := kids_one hg (by omega) (by rcases hx with e | e | e | e | e | e | e <;> rw [e] <;> rfl)
  obtain ⟨hnice, -, hgs⟩ := good_nice hg
  have h1 := h.alloc (.cells (Tr.ncells x).toArray 52)
  have hsz0 : (w.alloc (.cells (Tr.ncells x).toArray 52)).heap.size = w.heap.size + 1 := by simp
  have hww : (wrd x.kind).length ≤ 6 := by rcases hx with e | e | e | e | e | e | e <;> rw [e] <;> decide
  have HF : Aside (L ++ arT 0 ((wrd x.kind ++ [40]) :: [[41]]) [t1] = L ++ pr Lib.itoa (.nd x [t1])) := by
    show _ = _
    rw [pr_nd]
    rcases hx with e | e | e | e | e | e | e <;> simp [prs_cons, prs_nil, arT_zero, arT_succ, arT_nil, pcA, pcB, pcC, askd, e, wrd]
  have har := fun W hW => around_st pb L c (wrd x.kind ++ [40]) [[41]] [t1] rest w0 W hW hgs hk rfl (by simp) (by simp at hlen ⊢; omega)
  have hwd := word_any x.kind
  have hsz : (S (wrd x.kind)).size ≤ 6 := by rw [S_size]; exact hww
  have hadd : S (wrd x.kind ++ [40]) = S (wrd x.kind) ++ S [40] := (S_add _ _).symm
  obtain ⟨kind, kids, n, s, t, u, ln, co⟩ := x
  simp only at hx hwd HF hsz hadd har
  simp only [Tr.agg]
  simp only [Tr.ncells] at h1 hsz0
  have har' : ∀ W, St w0 W pb L c (Tr.flats [t1] ++ rest) → Calls Tryz.prog 159 #[.pointer (some ⟨pb, 0, none⟩), .slice (some ⟨W.heap.size, 0, none⟩) 2 2] (W.alloc (.cells #[.string (S (wrd kind ++ [40])), .string (S [41])] 9)) (Done w0 pb (L ++ arT 0 ((wrd kind ++ [40]) :: [[41]]) [t1]) rest) := har
  rw [hadd] at har'
  generalize L ++ pr Lib.itoa _ = FF at *
  generalize L ++ arT 0 ((wrd kind ++ [40]) :: [[41]]) [t1] = GG at *
  generalize S (wrd kind) = ww at *
  have hq := har' _ h1
  rw [hsz0] at hq
  clear har har' h hg hlen hnice hww hadd hgs hk hsz0
  rcases hx with rfl | rfl | rfl | rfl | rfl | rfl | rfl
  all_goals
    go_enter Tryz.func105, Tryz.ntmps105
    go_wp2_with (first | (go_at_call 163; refine (hwd _).mono ?_; rintro e w1 ⟨rfl, hw1⟩; replace hw1 := hw1.symm; subst hw1) | (go_at_call 159; refine hq.mono ?_; rintro e w1 ⟨rfl, c1, hS1⟩))
    go_end0
    exact ⟨rfl, c1, hS1.same HF.out⟩

set_option maxHeartbeats 4000000 in
theorem node_as (x : Tr.Nd) (ks : List Tr.T) (hx : x.kind = 29) (hg : GoodT (.nd x ks)) (hk : ∀ t ∈ ks, KidOk t) : NodeOk x ks := by
  intro pb L c rest w0 w h hlen
  obtain ⟨t1, rfl⟩ := kids_one hg (by omega) (by rw [hx]; rfl)
  obtain ⟨hnice, -, hgs⟩ := good_nice hg
  have h1 := h.alloc (.cells (Tr.ncells x).toArray 52)
  have hsz0 : (w.alloc (.cells (Tr.ncells x).toArray 52)).heap.size = w.heap.size + 1 := by simp
  have htB : noteB x.t.data.toList = true := by
    obtain ⟨_, _, _, ht, _⟩ := may_parts hnice.1
    unfold Tr.tB at ht
    rw [if_neg (by simp; omega), if_pos (by simp [hx])] at ht
    unfold noteB; rw [ht]; simp
  have hnl := note_len htB
  have HF : Aside (L ++ arT 0 ([40] :: [note x.t.data.toList ++ [41]]) [t1] = L ++ pr Lib.itoa (.nd x [t1])) := by
    show _ = _
    simp [pr_nd, prs_cons, prs_nil, arT_zero, arT_succ, arT_nil, pcA, pcB, pcC, askd, hx]
  have har := fun W hW => around_st pb L c [40] [note x.t.data.toList ++ [41]] [t1] rest w0 W hW hgs hk rfl (by simp) (by simp at hlen ⊢; omega)
  have htd := typed_any x.t htB
  have hsz : (S (note x.t.data.toList)).size ≤ 643 := by rw [S_size]; exact hnl
  have hadd : S (note x.t.data.toList ++ [41]) = S (note x.t.data.toList) ++ S [41] := (S_add _ _).symm
  obtain ⟨kind, kids, n, s, t, u, ln, co⟩ := x
  simp only at hx htd HF hsz hadd har
  subst hx
  simp only [Tr.agg]
  simp only [Tr.ncells] at h1
  have har' : ∀ W, St w0 W pb L c (Tr.flats [t1] ++ rest) → Calls Tryz.prog 159 #[.pointer (some ⟨pb, 0, none⟩), .slice (some ⟨W.heap.size, 0, none⟩) 2 2] (W.alloc (.cells #[.string (S [40]), .string (S (note t.data.toList ++ [41]))] 9)) (Done w0 pb (L ++ arT 0 ([40] :: [note t.data.toList ++ [41]]) [t1]) rest) := har
  rw [hadd] at har'
  generalize L ++ pr Lib.itoa _ = FF at *
  generalize L ++ arT 0 ([40] :: [note t.data.toList ++ [41]]) [t1] = GG at *
  generalize S (note t.data.toList) = nt at *
  clear hsz0 har h hg hlen hnice htB hnl hadd hgs hk
  go_enter Tryz.func105, Tryz.ntmps105
  go_wp2_with (first | (go_at_call 68; refine (htd _).mono ?_; rintro e w1 ⟨rfl, hB1⟩; have h2 := h1.below hB1) | (go_at_call 159; refine (har' _ h2).mono ?_; rintro e w2 ⟨rfl, c1, hS1⟩))
  go_end0
  exact ⟨rfl, c1, hS1.same HF.out⟩
end Go.Proofs.YtpikfdkgblghhaaGreatDoor
namespace Go.Proofs.YtpikfdkgblghhaaGreatDoor
open Go.RowKit Pn
set_option maxRecDepth 100000
set_option linter.unusedSimpArgs false
set_option linter.unusedVariables false

set_option maxHeartbeats 4000000 in
theorem function_st (pb : Nat) (L ah par : List UInt8) (c : Value) (x : Tr.Nd) (t1 : Tr.T) (rest : List Tr.Nd) (w0 w : World) (h : St w0 w pb L c (Tr.flat t1 ++ rest)) (ht : noteB x.t.data.toList = true) (hu : noteB x.u.data.toList = true) (hk1 : KidOk t1)
    (hah : ah.length ≤ 100) (hpar : par.length ≤ 100) (hlen : L.length + 2000 + 2400 * (Tr.flat t1).length ≤ 10000000000) :
    Calls Tryz.prog 158 #[.pointer (some ⟨pb, 0, none⟩), .string (S ah), .string (S par), Tr.agg x] w (Done w0 pb (L ++ ([ah, [40], par, note x.t.data.toList, [41], note x.u.data.toList, [32, 61, 62, 32]].flatten ++ txt 0 t1)) rest) := by
  have hnt := note_len ht
  have hnu := note_len hu
  have HF : Aside (L ++ [ah, [40], par, note x.t.data.toList, [41], note x.u.data.toList, [32, 61, 62, 32]].flatten ++ txt 0 t1 = L ++ ([ah, [40], par, note x.t.data.toList, [41], note x.u.data.toList, [32, 61, 62, 32]].flatten ++ txt 0 t1)) := by show _ = _; rw [List.append_assoc]
  have hput := fun W hW => put_st pb L c (Tr.flat t1 ++ rest) [ah, [40], par, note x.t.data.toList, [41], note x.u.data.toList, [32, 61, 62, 32]] w0 W hW (by simp) (by simp; omega)
  have hM : (L ++ [ah, [40], par, note x.t.data.toList, [41], note x.u.data.toList, [32, 61, 62, 32]].flatten).length + 2400 * (Tr.flat t1).length ≤ 10000000000 := by simp; omega
  generalize L ++ ([ah, [40], par, note x.t.data.toList, [41], note x.u.data.toList, [32, 61, 62, 32]].flatten ++ txt 0 t1) = FF at *
  generalize L ++ [ah, [40], par, note x.t.data.toList, [41], note x.u.data.toList, [32, 61, 62, 32]].flatten = M at *
  have hput' : ∀ W, St w0 W pb L c (Tr.flat t1 ++ rest) → Calls Tryz.prog 67 #[.pointer (some ⟨pb, 0, none⟩), .slice (some ⟨W.heap.size, 0, none⟩) 7 7] (W.alloc (.cells #[.string (S ah), .string (S [40]), .string (S par), .string (S (note x.t.data.toList)), .string (S [41]), .string (S (note x.u.data.toList)), .string (S [32, 61, 62, 32])] 9)) fun e w' => e = .returned (.tuple #[]) ∧ St w0 w' pb M c (Tr.flat t1 ++ rest) := hput
  have hkid := fun W hW => hk1 0 pb M c rest w0 W hW (by decide) (by decide) hM
  have htt := typed_any x.t ht
  have htu := typed_any x.u hu
  clear hput hM hnt hnu hah hpar hlen hk1
  have h1 := h.alloc (.cells (Tr.ncells x).toArray 52)
  have hbx := fun W hB => box_cells w W x hB
  have hlt := h.pen.lt
  generalize M ++ txt 0 t1 = GG at *
  obtain ⟨kind, kids, n, s, t, u, ln, co⟩ := x
  simp only [Tr.agg]
  simp only at htt htu hput' ht hu
  simp only [Tr.ncells] at h1 hbx
  generalize S (note t.data.toList) = nt at *
  generalize S (note u.data.toList) = nu at *
  generalize S ah = sa at *
  generalize S par = sp at *
  clear ht hu h
  go_enter Tryz.func158, Tryz.ntmps158
  go_wp2_with fail
  obtain ⟨w1, hw1⟩ : ∃ w1, w1 = w.alloc (.cells #[.int .i8 kind, .int .i64 kids, .int .i64 n, .string s, .string t, .string u, .int .i64 ln, .int .i64 co] 52) := ⟨_, rfl⟩
  have hbs : w1.heap.size = w.heap.size + 1 := by rw [hw1]; simp
  simp only [← hw1] at hbx h1 ⊢
  have hcl : ∀ W, Below w1.heap.size w1 W → W.cell? ⟨w.heap.size, 4, none⟩ = some (.string t) ∧ W.cell? ⟨w.heap.size, 5, none⟩ = some (.string u) := fun W hW => ⟨hbx W (hW.mono (Nat.le_of_eq hbs.symm)) 4, hbx W (hW.mono (Nat.le_of_eq hbs.symm)) 5⟩
  have HST : Aside (∀ W, Below w1.heap.size w1 W → St w0 W pb L c (Tr.flat t1 ++ rest)) := fun W hW => h1.below hW
  have HBS : Aside (w1.heap.size = w.heap.size + 1) := hbs
  clear hbx h1 hw1 hbs
  refine V.wp_region_W (fun W => Below w1.heap.size w1 W) 10 (by kernel_rfl) ?_
  have hS0 : Below w1.heap.size w1 w1.drew := (Below.refl _ _).drew
  generalize w1.drew = wd at *
  have hne9 : Nonempty (Cls (fun W => Below w1.heap.size w1 W)) := ⟨⟨w1, Below.refl _ _⟩⟩
  have z4 : ∀ z : Cls (fun W => Below w1.heap.size w1 W), z.w.cell? ⟨w.heap.size, 4, none⟩ = some (.string t) := fun z => (hcl z.w z.h).1
  have z5 : ∀ z : Cls (fun W => Below w1.heap.size w1 W), z.w.cell? ⟨w.heap.size, 5, none⟩ = some (.string u) := fun z => (hcl z.w z.h).2
  clear hcl
  have HS0 : Aside (Below w1.heap.size w1 wd) := hS0
  refine V.wpAnyW.quiet (by kernel_rfl) (by kernel_rfl) (fun _ _ _ _ _ h => h) hS0 [0, 1, 2, 3, 4, 6, 7] (by rfl) 4 _ _ (V.head0 10) (by kernel_rfl) ?_
  clear hS0
  simp only [V.pickL, List.filterMap_cons, List.filterMap_nil, List.getElem?_toArray, List.getElem?_cons_zero, List.getElem?_cons_succ]
  repeat (show wpQuiet _ _ _ _ (_ :: _) _; go_big_quiet_step (fail))
  refine wpQuiet_nil ?_
  clear z4 z5 hne9
  refine V.wpAnyW.event 5 (by decide) (by kernel_rfl) rfl ?_
  go_wp2_with fail
  refine (htt _).mono ?_
  rintro e w2 ⟨rfl, hB2⟩
  go_wp2_with fail
  have HB2 : Aside (Below w1.heap.size w1 w2) := HS0.out.trans (hB2.mono HS0.out.size)
  refine ⟨fun W => Below w1.heap.size w1 W, fun _ h => h, HB2.out, ?_⟩
  clear hB2
  refine V.wpAnyW.event 8 (by decide) (by kernel_rfl) rfl ?_
  go_wp2_with fail
  refine (htu _).mono ?_
  rintro e w3 ⟨rfl, hB3⟩
  go_wp2_with fail
  have HB3 : Aside (Below w1.heap.size w1 w3) := HB2.out.trans (hB3.mono HB2.out.size)
  refine ⟨fun W => Below w1.heap.size w1 W, fun _ h => h, HB3.out, ?_⟩
  clear hB3
  refine V.wpAnyW.event 9 (by decide) (by kernel_rfl) rfl ?_
  go_wp2_with fail
  refine ⟨fun W => Below w1.heap.size w1 W, fun _ h => h, HB3.out.alloc HB3.out.size _, ?_⟩
  refine V.wpAnyW.last (by kernel_rfl) rfl (by kernel_rfl) ?_
  have hq := hput' w3 (HST.out w3 HB3.out)
  go_wp2_with fail
  refine hq.mono ?_
  rintro e w4 ⟨rfl, hS4⟩
  go_wp2_with fail
  refine NoPanic.normal ?_
  refine NoPanic.normal ?_
  go_wp2_with fail
  refine (hkid w4 hS4).mono ?_
  rintro e w5 ⟨rfl, c5, hS5⟩
  go_wp2_with fail
  go_end0
  exact ⟨rfl, c5, hS5.same HF.out⟩
end Go.Proofs.YtpikfdkgblghhaaGreatDoor
namespace Go.Proofs.YtpikfdkgblghhaaGreatDoor
open Go.RowKit Pn
set_option maxRecDepth 100000
set_option linter.unusedSimpArgs false
set_option linter.unusedVariables false
namespace Pn
theorem may_notes {x : Tr.Nd} (h : Tr.mayB x = true) (hk : x.kind = 5 ∨ x.kind = 6) : noteB x.t.data.toList = true ∧ noteB x.u.data.toList = true := by
  obtain ⟨_, _, _, ht, hu⟩ := may_parts h
  unfold Tr.tB at ht
  unfold Tr.uB at hu
  rw [if_pos (by simp; omega)] at ht hu
  exact ⟨ht, hu⟩
end Pn

set_option maxHeartbeats 4000000 in
theorem node_fn (x : Tr.Nd) (ks : List Tr.T) (hx : x.kind = 5) (hg : GoodT (.nd x ks)) (hk : ∀ t ∈ ks, KidOk t) : NodeOk x ks := by
  intro pb L c rest w0 w h hlen
  obtain ⟨t1, rfl⟩ := kids_one hg (by omega) (by rw [hx]; rfl)
  obtain ⟨hnice, -, hgs⟩ := good_nice hg
  have h1 := h.alloc (.cells (Tr.ncells x).toArray 52)
  obtain ⟨hnt, hnu⟩ := may_notes hnice.1 (.inl hx)
  have hnm : x.s.data.toList.length ≤ 100 := by
    obtain ⟨_, _, hs, _, _⟩ := may_parts hnice.1
    unfold Tr.sB Tr.nm at hs
    rw [if_neg (by simp [hx]), if_pos (by simp [hx])] at hs
    have := name_len hs
    omega
  have hfl : Tr.flats [t1] ++ rest = Tr.flat t1 ++ rest := by simp [Tr.flats]
  have hfn : (Tr.flats [t1]).length = (Tr.flat t1).length := by simp [Tr.flats]
  rw [hfl] at h1
  rw [hfn] at hlen
  have HF : Aside (L ++ ([[102, 110, 32], [40], x.s.data.toList, note x.t.data.toList, [41], note x.u.data.toList, [32, 61, 62, 32]].flatten ++ txt 0 t1) = L ++ pr Lib.itoa (.nd x [t1])) := by
    show _ = _
    simp [pr_nd, prs_cons, prs_nil, pcA, pcB, pcC, askd, hx]
  have hq := function_st pb L [102, 110, 32] x.s.data.toList c x t1 rest w0 _ h1 hnt hnu (hk t1 (by simp)) (by simp) hnm (by omega)
  obtain ⟨kind, kids, n, s, t, u, ln, co⟩ := x
  simp only at hx
  subst hx
  simp only [Tr.agg] at hq ⊢
  simp only [Tr.ncells] at h1 hq
  have hq' : Calls Tryz.prog 158 #[.pointer (some ⟨pb, 0, none⟩), .string (S [102, 110, 32]), .string s, .agg #[.int .i8 5, .int .i64 kids, .int .i64 n, .string s, .string t, .string u, .int .i64 ln, .int .i64 co]] (w.alloc (.cells #[.int .i8 5, .int .i64 kids, .int .i64 n, .string s, .string t, .string u, .int .i64 ln, .int .i64 co] 52)) _ := hq
  generalize L ++ pr Lib.itoa _ = FF at *
  generalize L ++ ([[102, 110, 32], [40], s.data.toList, note t.data.toList, [41], note u.data.toList, [32, 61, 62, 32]].flatten ++ txt 0 t1) = GG at *
  clear h hg hlen hnice hfl hfn hgs hk hnt hnu hnm h1 hq
  go_enter Tryz.func105, Tryz.ntmps105
  go_wp2_with (go_at_call 158; refine hq'.mono ?_; rintro e w1 ⟨rfl, c1, hS1⟩)
  go_end0
  exact ⟨rfl, c1, hS1.same HF.out⟩

set_option maxHeartbeats 4000000 in
theorem node_rec (x : Tr.Nd) (ks : List Tr.T) (hx : x.kind = 6) (hg : GoodT (.nd x ks)) (hk : ∀ t ∈ ks, KidOk t) : NodeOk x ks := by
  intro pb L c rest w0 w h hlen
  obtain ⟨t1, rfl⟩ := kids_one hg (by omega) (by rw [hx]; rfl)
  obtain ⟨hnice, -, hgs⟩ := good_nice hg
  have h1 := h.alloc (.cells (Tr.ncells x).toArray 52)
  obtain ⟨hnt, hnu⟩ := may_notes hnice.1 (.inr hx)
  have hnm : (Tr.cut32 x.s.data.toList).1.length ≤ 32 ∧ (Tr.cut32 x.s.data.toList).2.1.length ≤ 32 := by
    obtain ⟨_, _, hs, _, _⟩ := may_parts hnice.1
    unfold Tr.sB Tr.nm at hs
    rw [if_neg (by simp [hx]), if_neg (by simp [hx]), if_pos (by simp [hx])] at hs
    simp only [Bool.and_eq_true] at hs
    exact ⟨name_len hs.1, name_len hs.2⟩
  have hfl : Tr.flats [t1] ++ rest = Tr.flat t1 ++ rest := by simp [Tr.flats]
  have hfn : (Tr.flats [t1]).length = (Tr.flat t1).length := by simp [Tr.flats]
  rw [hfl] at h1
  rw [hfn] at hlen
  have hcut := cut_any x.s hnice.2.2
  have hbx := fun W hB => box_cells w W x hB
  have hlt := h.pen.lt
  have hkt := hk t1 (by simp)
  generalize hown : (Tr.cut32 x.s.data.toList).1 = own at *
  generalize hpar : (Tr.cut32 x.s.data.toList).2.1 = par at *
  have HF : Aside (L ++ ([[114, 101, 99, 32] ++ own ++ [32], [40], par, note x.t.data.toList, [41], note x.u.data.toList, [32, 61, 62, 32]].flatten ++ txt 0 t1) = L ++ pr Lib.itoa (.nd x [t1])) := by
    show _ = _
    simp [pr_nd, prs_cons, prs_nil, pcA, pcB, pcC, askd, hx, hown, hpar]
  have hadd : S ([114, 101, 99, 32] ++ own ++ [32]) = S [114, 101, 99, 32] ++ S own ++ S [32] := by rw [S_add, S_add]
  have hso : (S own).size ≤ 32 := by rw [S_size]; omega
  have hq := fun W hW => function_st pb L ([114, 101, 99, 32] ++ own ++ [32]) par c x t1 rest w0 W hW hnt hnu hkt (by simp; omega) (by omega) (by omega)
  have hsz : (w.alloc (.cells (Tr.ncells x).toArray 52)).heap.size = w.heap.size + 1 := by simp
  obtain ⟨kind, kids, n, s, t, u, ln, co⟩ := x
  simp only at hx hcut
  subst hx
  simp only [Tr.agg] at hq ⊢
  simp only [Tr.ncells] at h1 hq hbx hsz
  rw [hadd] at hq
  generalize L ++ pr Lib.itoa _ = FF at *
  generalize L ++ ([[114, 101, 99, 32] ++ own ++ [32], [40], par, note t.data.toList, [41], note u.data.toList, [32, 61, 62, 32]].flatten ++ txt 0 t1) = GG at *
  generalize S own = so at *
  generalize S par = sp at *
  generalize (Tr.cut32 s.data.toList).2.2 = fb at *
  clear h hg hlen hnice hfl hfn hgs hk hnt hnu hnm hkt hown hpar hadd
  go_enter Tryz.func105, Tryz.ntmps105
  go_wp2_with fail
  refine (hcut _).mono ?_
  rintro e w2 ⟨rfl, hB2⟩
  have h2 := h1.below hB2
  rw [hsz] at hB2
  have hc := hbx w2 hB2
  have q0 := hc 0
  have q1 := hc 1
  have q2 := hc 2
  have q3 := hc 3
  have q4 := hc 4
  have q5 := hc 5
  have q6 := hc 6
  have q7 := hc 7
  simp only [List.getElem?_cons_zero, List.getElem?_cons_succ] at q0 q1 q2 q3 q4 q5 q6 q7
  have hq2 := hq w2 h2
  clear hc hbx h1 hB2 hsz hq
  go_wp2_with (go_at_call 158; refine hq2.mono ?_; rintro e w3 ⟨rfl, c1, hS1⟩)
  go_end0
  exact ⟨rfl, c1, hS1.same HF.out⟩

set_option maxHeartbeats 4000000 in
theorem node_let (x : Tr.Nd) (ks : List Tr.T) (hx : x.kind = 8) (hg : GoodT (.nd x ks)) (hk : ∀ t ∈ ks, KidOk t) : NodeOk x ks := by
  intro pb L c rest w0 w h hlen
  obtain ⟨t1, t2, rfl⟩ := kids_two hg (by omega) (by rw [hx]; rfl)
  obtain ⟨hnice, -, hgs⟩ := good_nice hg
  have h1 := h.alloc (.cells (Tr.ncells x).toArray 52)
  have hnt : noteB x.t.data.toList = true := by
    obtain ⟨_, _, _, ht, _⟩ := may_parts hnice.1
    unfold Tr.tB at ht
    rw [if_pos (by simp [hx])] at ht
    exact ht
  have hnm : x.s.data.toList.length ≤ 32 := by
    obtain ⟨_, _, hs, _, _⟩ := may_parts hnice.1
    unfold Tr.sB Tr.nm at hs
    rw [if_neg (by simp [hx]), if_pos (by simp [hx])] at hs
    exact name_len hs
  have hnl := note_len hnt
  have HF : Aside (L ++ arT 0 (([108, 101, 116, 32] ++ x.s.data.toList ++ note x.t.data.toList ++ [32, 61, 32]) :: [[32, 105, 110, 32], []]) [t1, t2] = L ++ pr Lib.itoa (.nd x [t1, t2])) := by
    show _ = _
    simp [pr_nd, prs_cons, prs_nil, arT_zero, arT_succ, arT_nil, pcA, pcB, pcC, askd, hx]
  have har := fun W hW => around_st pb L c ([108, 101, 116, 32] ++ x.s.data.toList ++ note x.t.data.toList ++ [32, 61, 32]) [[32, 105, 110, 32], []] [t1, t2] rest w0 W hW hgs hk rfl (by simp) (by
    have hp : ([108, 101, 116, 32] ++ x.s.data.toList ++ note x.t.data.toList ++ [32, 61, 32]).length ≤ 700 := by
      simp only [List.length_append, List.length_cons, List.length_nil]; omega
    rw [List.flatten_cons, List.length_append]
    have hf : ([[32, 105, 110, 32], []] : List (List UInt8)).flatten.length = 4 := rfl
    omega)
  have htt := typed_any x.t hnt
  have hbx := fun W hB => box_cells w W x hB
  have hlt := h.pen.lt
  have hss : x.s.size ≤ 32 := by rw [S_of x.s, S_size]; exact hnm
  have hns : (S (note x.t.data.toList)).size ≤ 643 := by rw [S_size]; exact hnl
  have hadd : S ([108, 101, 116, 32] ++ x.s.data.toList ++ note x.t.data.toList ++ [32, 61, 32]) = S [108, 101, 116, 32] ++ x.s ++ S (note x.t.data.toList) ++ S [32, 61, 32] := by rw [← S_add, ← S_add, ← S_add]; rfl
  obtain ⟨kind, kids, n, s, t, u, ln, co⟩ := x
  simp only at hx htt hss hns hadd
  subst hx
  simp only [Tr.agg]
  simp only [Tr.ncells] at h1 hbx
  have har' : ∀ W, St w0 W pb L c (Tr.flats [t1, t2] ++ rest) → Calls Tryz.prog 159 #[.pointer (some ⟨pb, 0, none⟩), .slice (some ⟨W.heap.size, 0, none⟩) 3 3] (W.alloc (.cells #[.string (S ([108, 101, 116, 32] ++ s.data.toList ++ note t.data.toList ++ [32, 61, 32])), .string (S [32, 105, 110, 32]), .string (S [])] 9)) (Done w0 pb (L ++ arT 0 (([108, 101, 116, 32] ++ s.data.toList ++ note t.data.toList ++ [32, 61, 32]) :: [[32, 105, 110, 32], []]) [t1, t2]) rest) := har
  rw [hadd] at har'
  generalize L ++ pr Lib.itoa _ = FF at *
  generalize L ++ arT 0 (([108, 101, 116, 32] ++ s.data.toList ++ note t.data.toList ++ [32, 61, 32]) :: [[32, 105, 110, 32], []]) [t1, t2] = GG at *
  generalize S (note t.data.toList) = nt at *
  clear har h hg hlen hnice hnt hnm hnl hadd hk hgs
  go_enter Tryz.func105, Tryz.ntmps105
  go_wp2_with fail
  obtain ⟨w1, hw1⟩ : ∃ w1, w1 = w.alloc (.cells #[.int .i8 8, .int .i64 kids, .int .i64 n, .string s, .string t, .string u, .int .i64 ln, .int .i64 co] 52) := ⟨_, rfl⟩
  have hbs : w1.heap.size = w.heap.size + 1 := by rw [hw1]; simp
  simp only [← hw1] at hbx h1 ⊢
  have hcl : ∀ W, Below w1.heap.size w1 W → W.cell? ⟨w.heap.size, 3, none⟩ = some (.string s) ∧ W.cell? ⟨w.heap.size, 4, none⟩ = some (.string t) := fun W hW => ⟨hbx W (hW.mono (Nat.le_of_eq hbs.symm)) 3, hbx W (hW.mono (Nat.le_of_eq hbs.symm)) 4⟩
  have HST : Aside (∀ W, Below w1.heap.size w1 W → St w0 W pb L c (Tr.flats [t1, t2] ++ rest)) := fun W hW => h1.below hW
  clear hbx h1 hw1 hbs
  refine V.wp_region_W (fun W => Below w1.heap.size w1 W) 10 (by kernel_rfl) ?_
  have hS0 : Below w1.heap.size w1 w1.drew := (Below.refl _ _).drew
  generalize w1.drew = wd at *
  have hne9 : Nonempty (Cls (fun W => Below w1.heap.size w1 W)) := ⟨⟨w1, Below.refl _ _⟩⟩
  have z3 : ∀ z : Cls (fun W => Below w1.heap.size w1 W), z.w.cell? ⟨w.heap.size, 3, none⟩ = some (.string s) := fun z => (hcl z.w z.h).1
  have z4 : ∀ z : Cls (fun W => Below w1.heap.size w1 W), z.w.cell? ⟨w.heap.size, 4, none⟩ = some (.string t) := fun z => (hcl z.w z.h).2
  clear hcl
  have HS0 : Aside (Below w1.heap.size w1 wd) := hS0
  refine V.wpAnyW.quiet (by kernel_rfl) (by kernel_rfl) (fun _ _ _ _ _ h => h) hS0 [0, 1, 2, 3, 4, 5] (by rfl) 5 _ _ (V.head0 10) (by kernel_rfl) ?_
  clear hS0
  simp only [V.pickL, List.filterMap_cons, List.filterMap_nil, List.getElem?_toArray, List.getElem?_cons_zero, List.getElem?_cons_succ]
  repeat (show wpQuiet _ _ _ _ (_ :: _) _; go_big_quiet_step (fail))
  refine wpQuiet_nil ?_
  clear z3 z4 hne9
  refine V.wpAnyW.event 6 (by decide) (by kernel_rfl) rfl ?_
  go_wp2_with fail
  refine (htt _).mono ?_
  rintro e w2 ⟨rfl, hB2⟩
  go_wp2_with fail
  have HB2 : Aside (Below w1.heap.size w1 w2) := HS0.out.trans (hB2.mono HS0.out.size)
  refine ⟨fun W => Below w1.heap.size w1 W, fun _ h => h, HB2.out, ?_⟩
  clear hB2
  refine V.wpAnyW.event 7 (by decide) (by kernel_rfl) rfl ?_
  go_wp2_with fail
  refine ⟨fun W => Below w1.heap.size w1 W, fun _ h => h, HB2.out, ?_⟩
  refine V.wpAnyW.event 8 (by decide) (by kernel_rfl) rfl ?_
  go_wp2_with fail
  refine ⟨fun W => Below w1.heap.size w1 W, fun _ h => h, HB2.out, ?_⟩
  refine V.wpAnyW.event 9 (by decide) (by kernel_rfl) rfl ?_
  go_wp2_with fail
  refine ⟨fun W => Below w1.heap.size w1 W, fun _ h => h, HB2.out.alloc HB2.out.size _, ?_⟩
  refine V.wpAnyW.last (by kernel_rfl) rfl (by kernel_rfl) ?_
  have hq := har' w2 (HST.out w2 HB2.out)
  go_wp2_with fail
  refine hq.mono ?_
  rintro e w4 ⟨rfl, c4, hS4⟩
  go_wp2_with fail
  refine NoPanic.normal ?_
  refine NoPanic.normal ?_
  go_wp2_with fail
  go_end0
  exact ⟨rfl, c4, hS4.same HF.out⟩
end Go.Proofs.YtpikfdkgblghhaaGreatDoor
