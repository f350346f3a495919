/- What the document's calls answer, and the walk of RelateTwo. -/
import Derived.Test.YtgkmoifibcmooaaTwoB
namespace Go.Proofs.Ytgkmoifibcmooaa
open Go.RowKit

set_option maxHeartbeats 1000000 in
theorem both_any (l m : List UInt8) (w : World) :
    Calls Try.prog 23 #[.string (S l), .string (S m)] w fun e w' => e = .returned (.int .i64 (Tp.firstBad [l, m])) ∧ w' = w := by
  have h1 := dcheck_any (S l)
  have h2 := dcheck_any (S m)
  rw [S_list] at h1 h2
  have hF : Aside (Tp.firstBad [l, m] = if (Tp.chk l).1 = 0 then (if (Tp.chk m).1 = 0 then 0 else (Tp.chk m).1) else (Tp.chk l).1) := rfl
  generalize Tp.chk l = x at *
  generalize Tp.chk m = y at *
  generalize S l = s at *
  generalize S m = t at *
  by_cases hx : x.1 = 0
  · have hx' : ((x.1 : Int) != 0) = false := by simpa using hx
    go_enter Try.func23, Try.ntmps23
    go_wp2_with fail
    refine (h1 _).mono ?_
    rintro e w' ⟨rfl, hw'⟩
    replace hw' := hw'.symm; subst hw'
    go_wp2_with fail
    refine (h2 _).mono ?_
    rintro e w' ⟨rfl, hw'⟩
    replace hw' := hw'.symm; subst hw'
    go_wp2_with fail
    go_ret
    refine ⟨?_, rfl⟩
    rw [hF.out, if_pos hx]
    by_cases hy : y.1 = 0
    · rw [if_pos hy]
      show Ending.returned (.int .i64 (y.1 : Int)) = _
      rw [hy]
    · rw [if_neg hy]; rfl
  · have hx' : ((x.1 : Int) != 0) = true := by simpa using hx
    go_enter Try.func23, Try.ntmps23
    go_wp2_with fail
    refine (h1 _).mono ?_
    rintro e w' ⟨rfl, hw'⟩
    replace hw' := hw'.symm; subst hw'
    go_wp2_with fail
    go_ret
    rw [hF.out, if_neg hx]
    exact ⟨rfl, rfl⟩

def RNO (F : Nat) : Prop := ∀ (s t : ByteArray), ((Tp.chk s.data.toList).1 ≠ 0 ∨ (Tp.chk t.data.toList).1 ≠ 0) → ∀ (w : World), Calls Try.prog F #[.string s, .string t] w fun e w' => e = .returned (.bool false) ∧ w' = w
set_option maxHeartbeats 1000000 in
theorem rconsistent_no : RNO 12 := by
  intro s t h w
  have h1 := ris_any s
  have h2 := ris_any t
  cases e1 : ((Tp.chk s.data.toList).1 == 0) with
  | false =>
    rw [e1] at h1
    go_enter Try.func12, Try.ntmps12
    go_wp2_with (go_at_call_of 31 s; refine (h1 _).mono ?_; rintro e w' ⟨rfl, hw'⟩; replace hw' := hw'.symm; subst hw')
    go_ret
    exact ⟨rfl, rfl⟩
  | true =>
    have e2 : ((Tp.chk t.data.toList).1 == 0) = false := by
      rcases h with h | h
      · simp at e1; exact absurd e1 h
      · simpa using h
    rw [e1] at h1
    rw [e2] at h2
    go_enter Try.func12, Try.ntmps12
    go_wp2_with fail
    refine (h1 _).mono ?_
    rintro e w' ⟨rfl, hw'⟩
    replace hw' := hw'.symm; subst hw'
    go_wp2_with fail
    refine (h2 _).mono ?_
    rintro e w' ⟨rfl, hw'⟩
    replace hw' := hw'.symm; subst hw'
    go_wp2_with fail
    go_ret
    exact ⟨rfl, rfl⟩
set_option maxHeartbeats 1000000 in
theorem rprecise_no : RNO 14 := by
  intro s t h w
  have h1 := ris_any s
  have h2 := ris_any t
  cases e1 : ((Tp.chk s.data.toList).1 == 0) with
  | false =>
    rw [e1] at h1
    go_enter Try.func14, Try.ntmps14
    go_wp2_with (go_at_call_of 31 s; refine (h1 _).mono ?_; rintro e w' ⟨rfl, hw'⟩; replace hw' := hw'.symm; subst hw')
    go_ret
    exact ⟨rfl, rfl⟩
  | true =>
    have e2 : ((Tp.chk t.data.toList).1 == 0) = false := by
      rcases h with h | h
      · simp at e1; exact absurd e1 h
      · simpa using h
    rw [e1] at h1
    rw [e2] at h2
    go_enter Try.func14, Try.ntmps14
    go_wp2_with fail
    refine (h1 _).mono ?_
    rintro e w' ⟨rfl, hw'⟩
    replace hw' := hw'.symm; subst hw'
    go_wp2_with fail
    refine (h2 _).mono ?_
    rintro e w' ⟨rfl, hw'⟩
    replace hw' := hw'.symm; subst hw'
    go_wp2_with fail
    go_ret
    exact ⟨rfl, rfl⟩

theorem ris_of {s : ByteArray} {a : Tp.Ty} (h : IsTy s a) (w : World) : Calls Try.prog 31 #[.string s] w fun e w' => e = .returned (.bool true) ∧ w' = w := ris_yes s h.chk w
set_option maxHeartbeats 1000000 in
theorem rconsistent_of {s t : ByteArray} {a b : Tp.Ty} (ha : IsTy s a) (hb : IsTy t b) (w : World) :
    Calls Try.prog 12 #[.string s, .string t] w fun e w' => e = .returned (.bool (Tp.cns a b)) ∧ Below w.heap.size w w' := by
  have h := rcons_yes 64 a b w ha.len ha.len hb.len
  rw [← ha.eq, ← hb.eq] at h
  go_enter Try.func12, Try.ntmps12
  go_wp2_with (first | (go_at_call 31; refine (ris_of (by assumption) _).mono ?_; rintro e w' ⟨rfl, hw'⟩; replace hw' := hw'.symm; subst hw') | (go_at_call 24; refine h.mono ?_; rintro e w' ⟨rfl, hB⟩))
  go_ret
  exact ⟨rfl, hB⟩
set_option maxHeartbeats 1000000 in
theorem rprecise_of {s t : ByteArray} {a b : Tp.Ty} (ha : IsTy s a) (hb : IsTy t b) (w : World) :
    Calls Try.prog 14 #[.string s, .string t] w fun e w' => e = .returned (.bool (Tp.prc a b)) ∧ Below w.heap.size w w' := by
  have h := rprec_yes 64 a b w ha.len ha.len hb.len
  rw [← ha.eq, ← hb.eq] at h
  go_enter Try.func14, Try.ntmps14
  go_wp2_with (first | (go_at_call 31; refine (ris_of (by assumption) _).mono ?_; rintro e w' ⟨rfl, hw'⟩; replace hw' := hw'.symm; subst hw') | (go_at_call 33; refine h.mono ?_; rintro e w' ⟨rfl, hB⟩))
  go_ret
  exact ⟨rfl, hB⟩
set_option maxHeartbeats 1000000 in
theorem rmeet_of {s t : ByteArray} {a b : Tp.Ty} (ha : IsTy s a) (hb : IsTy t b) (w : World) :
    Calls Try.prog 8 #[.string s, .string t] w fun e w' => e = .returned (.tuple #[.string (S (mtS a b)), .int .i64 (mtE a b)]) ∧ Below w.heap.size w w' := by
  have hbo := both_any (Tp.enc a) (Tp.enc b)
  rw [good2 (by rw [Tp.chk_enc a ha.len]) (by rw [Tp.chk_enc b hb.len]), ← ha.eq, ← hb.eq] at hbo
  have hc := fun w => rcons_yes 64 a b w ha.len ha.len hb.len
  rw [← ha.eq, ← hb.eq] at hc
  cases hq : Tp.cns a b with
  | false =>
    have HM : Aside (mtS a b = [] ∧ mtE a b = 30) := by show _ ∧ _; simp [mtS, mtE, hq]
    rw [hq] at hc
    go_enter Try.func8, Try.ntmps8
    go_wp2_with (first | (go_at_call 23; refine (hbo _).mono ?_; rintro e w' ⟨rfl, hw'⟩; replace hw' := hw'.symm; subst hw') | (go_at_call 24; refine (hc _).mono ?_; rintro e w' ⟨rfl, hB⟩))
    go_ret2
    rw [HM.out.1, HM.out.2]
    exact ⟨rfl, hB⟩
  | true =>
    have hm := fun w => rmeet_yes 64 a b w hq ha.len ha.len hb.len
    rw [← ha.eq, ← hb.eq] at hm
    have hl := Tp.met_len hq
    have la := ha.len
    have lb := hb.len
    rw [hq] at hc
    by_cases h64 : (Tp.enc (Tp.met a b)).length ≤ 64
    · have HM : Aside (mtS a b = Tp.enc (Tp.met a b) ∧ mtE a b = 0) := by show _ ∧ _; simp [mtS, mtE, hq, Tp.val, Tp.merr, h64]
      have hz : decide ((64 : Int) < ((S (Tp.enc (Tp.met a b))).size : Int)) = false := by rw [S_size]; simp; omega
      rw [HM.out.1, HM.out.2]
      generalize S (Tp.enc (Tp.met a b)) = m at *
      go_enter Try.func8, Try.ntmps8
      go_wp2_with (first | (go_at_call 23; refine (hbo _).mono ?_; rintro e w' ⟨rfl, hw'⟩; replace hw' := hw'.symm; subst hw') | (go_at_call 24; refine (hc _).mono ?_; rintro e w1 ⟨rfl, hB⟩) | (go_at_call 25; refine (hm _).mono ?_; rintro e w2 ⟨rfl, hB2⟩))
      go_ret2
      exact ⟨rfl, hB.trans (hB2.mono hB.size)⟩
    · have HM : Aside (mtS a b = [] ∧ mtE a b = 21) := by show _ ∧ _; simp [mtS, mtE, hq, Tp.val, Tp.merr, h64]
      have hz : (64 : Int) < ((S (Tp.enc (Tp.met a b))).size : Int) := by rw [S_size]; omega
      generalize S (Tp.enc (Tp.met a b)) = m at *
      go_enter Try.func8, Try.ntmps8
      go_wp2_with (first | (go_at_call 23; refine (hbo _).mono ?_; rintro e w' ⟨rfl, hw'⟩; replace hw' := hw'.symm; subst hw') | (go_at_call 24; refine (hc _).mono ?_; rintro e w1 ⟨rfl, hB⟩) | (go_at_call 25; refine (hm _).mono ?_; rintro e w2 ⟨rfl, hB2⟩))
      go_ret2
      rw [HM.out.1, HM.out.2]
      exact ⟨rfl, hB.trans (hB2.mono hB.size)⟩
set_option maxHeartbeats 1000000 in
theorem rjoin_of {s t : ByteArray} {a b : Tp.Ty} (ha : IsTy s a) (hb : IsTy t b) (w : World) :
    Calls Try.prog 10 #[.string s, .string t] w fun e w' => e = .returned (.tuple #[.string (S (Tp.enc (Tp.joi a b))), .int .i64 0]) ∧ Below w.heap.size w w' := by
  have hbo := both_any (Tp.enc a) (Tp.enc b)
  rw [good2 (by rw [Tp.chk_enc a ha.len]) (by rw [Tp.chk_enc b hb.len]), ← ha.eq, ← hb.eq] at hbo
  have hm := fun w => rjoin_yes 64 a b w ha.len ha.len hb.len
  rw [← ha.eq, ← hb.eq] at hm
  go_enter Try.func10, Try.ntmps10
  go_wp2_with (first | (go_at_call 23; refine (hbo _).mono ?_; rintro e w' ⟨rfl, hw'⟩; replace hw' := hw'.symm; subst hw') | (go_at_call 28; refine (hm _).mono ?_; rintro e w2 ⟨rfl, hB2⟩))
  go_ret2
  exact ⟨rfl, hB2⟩
set_option maxHeartbeats 1000000 in
theorem rmeet_bad (l m : List UInt8) (h : (Tp.chk l).1 ≠ 0 ∨ (Tp.chk m).1 ≠ 0) (w : World) :
    Calls Try.prog 8 #[.string (S l), .string (S m)] w fun e w' => e = .returned (.tuple #[.string ⟨#[]⟩, .int .i64 (Tp.firstBad [l, m])]) ∧ w' = w := by
  have hb' : ((Tp.firstBad [l, m] : Int) != 0) = true := by simpa using bad2 h
  have hbo := both_any l m
  generalize S l = s at *
  generalize S m = t at *
  go_enter Try.func8, Try.ntmps8
  go_wp2_with (first | (go_at_call 23; refine (hbo _).mono ?_; rintro e w' ⟨rfl, hw'⟩; replace hw' := hw'.symm; subst hw'))
  go_ret2
  exact ⟨rfl, rfl⟩
set_option maxHeartbeats 1000000 in
theorem rjoin_bad (l m : List UInt8) (h : (Tp.chk l).1 ≠ 0 ∨ (Tp.chk m).1 ≠ 0) (w : World) :
    Calls Try.prog 10 #[.string (S l), .string (S m)] w fun e w' => e = .returned (.tuple #[.string ⟨#[]⟩, .int .i64 (Tp.firstBad [l, m])]) ∧ w' = w := by
  have hb' : ((Tp.firstBad [l, m] : Int) != 0) = true := by simpa using bad2 h
  have hbo := both_any l m
  generalize S l = s at *
  generalize S m = t at *
  go_enter Try.func10, Try.ntmps10
  go_wp2_with (first | (go_at_call 23; refine (hbo _).mono ?_; rintro e w' ⟨rfl, hw'⟩; replace hw' := hw'.symm; subst hw'))
  go_ret2
  exact ⟨rfl, rfl⟩

set_option maxRecDepth 100000 in
set_option maxHeartbeats 4000000 in
theorem two_any (s t : ByteArray) (hs : s.size ≤ 140737488355328) (ht : t.size ≤ 140737488355328) (w : World) :
    Calls Try.prog 3 #[.string s, .string t] w fun e w' => e = .returned (.bool true) ∧ Below w.heap.size w w' := by
  have hl := lives_any
  have hB : Below w.heap.size w w := Below.refl _ _
  by_cases hlong : (2147483647 : Int) < (s.size : Int) + (t.size : Int)
  · go_enter Try.func3, Try.ntmps3
    go_wp2_with (go_at_call 6; refine (long_any _ _).mono ?_; rintro e w' ⟨rfl, hw'⟩; replace hw' := hw'.symm; subst hw')
    go_ret
    exact ⟨rfl, hB⟩
  · have hlong' : decide ((2147483647 : Int) < (s.size : Int) + (t.size : Int)) = false := by simpa using hlong
    clear hlong
    by_cases h1 : (Tp.chk s.data.toList).1 = 0 ∧ (Tp.chk t.data.toList).1 = 0
    · obtain ⟨a, ha⟩ := isTy_of h1.1
      obtain ⟨b, hb⟩ := isTy_of h1.2
      clear h1
      go_enter Try.func3, Try.ntmps3
      go_wp2_with (first
        | (go_at_call 6; refine (long_any _ _).mono ?_; rintro e w' ⟨rfl, hw'⟩; replace hw' := hw'.symm; subst hw')
        | (go_at_call 7; refine (meet_of (by assumption) (by assumption) _).mono ?_; rintro e w' ⟨rfl, hB'⟩; have hB := hB.trans (hB'.mono hB.size); clear hB')
        | (go_at_call 8; refine (rmeet_of (by assumption) (by assumption) _).mono ?_; rintro e w' ⟨rfl, hB'⟩; have hB := hB.trans (hB'.mono hB.size); clear hB')
        | (go_at_call 9; refine (join_of (by assumption) (by assumption) _).mono ?_; rintro e w' ⟨rfl, hB'⟩; have hB := hB.trans (hB'.mono hB.size); clear hB')
        | (go_at_call 10; refine (rjoin_of (by assumption) (by assumption) _).mono ?_; rintro e w' ⟨rfl, hB'⟩; have hB := hB.trans (hB'.mono hB.size); clear hB')
        | (go_at_call 11; refine (consistent_of (by assumption) (by assumption) _).mono ?_; rintro e w' ⟨rfl, hB'⟩; have hB := hB.trans (hB'.mono hB.size); clear hB')
        | (go_at_call 12; refine (rconsistent_of (by assumption) (by assumption) _).mono ?_; rintro e w' ⟨rfl, hB'⟩; have hB := hB.trans (hB'.mono hB.size); clear hB')
        | (go_at_call 13; refine (precise_of (by assumption) (by assumption) _).mono ?_; rintro e w' ⟨rfl, hB'⟩; have hB := hB.trans (hB'.mono hB.size); clear hB')
        | (go_at_call 14; refine (rprecise_of (by assumption) (by assumption) _).mono ?_; rintro e w' ⟨rfl, hB'⟩; have hB := hB.trans (hB'.mono hB.size); clear hB')
        | (go_at_call 15; refine (hl _).mono ?_; rintro e w' ⟨rfl, hB'⟩; have hB := hB.trans (hB'.mono hB.size); clear hB'))
      go_ret
      exact ⟨rfl, hB⟩
    · have h2 : (Tp.chk s.data.toList).1 ≠ 0 ∨ (Tp.chk t.data.toList).1 ≠ 0 := by
        by_cases h : (Tp.chk s.data.toList).1 = 0
        · right; intro k; exact h1 ⟨h, k⟩
        · exact .inl h
      have c7 := meet_bad _ _ h2
      have c8 := rmeet_bad _ _ h2
      have c9 := join_bad _ _ h2
      have c10 := rjoin_bad _ _ h2
      have c11 := consistent_no _ _ h2
      have c12 := rconsistent_no s t h2
      have c13 := precise_no _ _ h2
      have c14 := rprecise_no s t h2
      rw [← S_of s, ← S_of t] at c7 c8 c9 c10 c11 c13
      generalize Tp.firstBad [s.data.toList, t.data.toList] = fb at *
      clear h1 h2
      go_enter Try.func3, Try.ntmps3
      go_wp2_with (first
        | (go_at_call 6; refine (long_any _ _).mono ?_; rintro e w' ⟨rfl, hw'⟩; replace hw' := hw'.symm; subst hw')
        | (go_at_call 7; refine (c7 _).mono ?_; rintro e w' ⟨rfl, hB'⟩; have hB := hB.trans (hB'.mono hB.size); clear hB')
        | (go_at_call 8; refine (c8 _).mono ?_; rintro e w' ⟨rfl, hw'⟩; replace hw' := hw'.symm; subst hw')
        | (go_at_call 9; refine (c9 _).mono ?_; rintro e w' ⟨rfl, hB'⟩; have hB := hB.trans (hB'.mono hB.size); clear hB')
        | (go_at_call 10; refine (c10 _).mono ?_; rintro e w' ⟨rfl, hw'⟩; replace hw' := hw'.symm; subst hw')
        | (go_at_call 11; refine (c11 _).mono ?_; rintro e w' ⟨rfl, hB'⟩; have hB := hB.trans (hB'.mono hB.size); clear hB')
        | (go_at_call 12; refine (c12 _).mono ?_; rintro e w' ⟨rfl, hw'⟩; replace hw' := hw'.symm; subst hw')
        | (go_at_call 13; refine (c13 _).mono ?_; rintro e w' ⟨rfl, hB'⟩; have hB := hB.trans (hB'.mono hB.size); clear hB')
        | (go_at_call 14; refine (c14 _).mono ?_; rintro e w' ⟨rfl, hw'⟩; replace hw' := hw'.symm; subst hw')
        | (go_at_call 15; refine (hl _).mono ?_; rintro e w' ⟨rfl, hB'⟩; have hB := hB.trans (hB'.mono hB.size); clear hB'))
      go_ret
      exact ⟨rfl, hB⟩
end Go.Proofs.Ytgkmoifibcmooaa
