/- The calls of SafePrecise and SafeSame: they return true, whatever the texts. -/
import Derived.Test.YtcokgpmgknnihaaLawsW
namespace Go.Proofs.Ytcokgpmgknnihaa
open Go.RowKit
set_option maxRecDepth 100000

theorem precise_of {s t : ByteArray} {a b : Tp.Ty} (hs : IsTy s a) (ht : IsTy t b) (w : World) :
    Calls Try.prog 14 #[.string s, .string t] w fun e w' => e = .returned (.bool (Tp.prc a b)) ∧ Below w.heap.size w w' := by
  rw [hs.eq, ht.eq]; exact precise_yes a b hs.len ht.len w

set_option maxHeartbeats 2000000 in
theorem safePrecise_any (s t : ByteArray) (w : World) :
    Calls Try.prog 4 #[.string s, .string t] w fun e w' => e = .returned (.bool true) ∧ Below w.heap.size w w' := by
  have hw := works_any
  have hB := Below.refl w.heap.size w
  by_cases hs : (Tp.chk s.data.toList).1 = 0
  · obtain ⟨a, ha⟩ := isTy_of hs
    have g1 := good_yes ha
    by_cases ht : (Tp.chk t.data.toList).1 = 0
    · obtain ⟨b, hb⟩ := isTy_of ht
      have g2 := good_yes hb
      have r1 : ∀ w : World, Calls Try.prog 13 #[.string s, .string t] w fun e w' => e = .returned (.bool (Tp.cns a b)) ∧ Below w.heap.size w w' := fun w => by rw [ha.eq, hb.eq]; exact consistent_yes a b ha.len hb.len w
      have v1 := Tp.prc_safe a b
      have v2 := Tp.prc_safe b a
      clear hs ht
      cases hQ : Tp.cns a b with
      | false =>
        rw [hQ] at r1
        clear hQ v1 v2
        go_enter Try.func4, Try.ntmps4
        go_wp2_with (first | (go_at_call_of 6 s; refine (g1 _).mono ?_; rintro e w' ⟨rfl, hw'⟩; replace hw' := hw'.symm; subst hw') | (go_at_call_of 6 t; refine (g2 _).mono ?_; rintro e w' ⟨rfl, hw'⟩; replace hw' := hw'.symm; subst hw') | (go_at_call 13; refine (r1 _).mono ?_; rintro e w' ⟨rfl, hB'⟩; have hB := hB.trans (hB'.mono hB.size); clear hB') | (go_at_call 12; refine (hw _).mono ?_; rintro e w' ⟨rfl, hB'⟩; have hB := hB.trans (hB'.mono hB.size); clear hB'))
        go_ret
        exact ⟨rfl, hB⟩
      | true =>
        rw [hQ] at r1
        clear hQ
        cases hP : Tp.pls a b <;> cases hR : Tp.pls b a <;> rw [hP] at v1 <;> rw [hR] at v2 <;> simp only [Bool.true_and, Bool.false_and] at v1 v2
        all_goals
          go_enter Try.func4, Try.ntmps4
          go_wp2_with (first | (go_at_call_of 6 s; refine (g1 _).mono ?_; rintro e w' ⟨rfl, hw'⟩; replace hw' := hw'.symm; subst hw') | (go_at_call_of 6 t; refine (g2 _).mono ?_; rintro e w' ⟨rfl, hw'⟩; replace hw' := hw'.symm; subst hw') | (go_at_call 13; refine (r1 _).mono ?_; rintro e w' ⟨rfl, hB'⟩; have hB := hB.trans (hB'.mono hB.size); clear hB') | (go_at_call 14; refine (precise_of (by assumption) (by assumption) _).mono ?_; rintro e w' ⟨rfl, hB'⟩; simp only [v1, v2]; have hB := hB.trans (hB'.mono hB.size); clear hB') | (go_at_call 10; refine (plus_of (by assumption) (by assumption) _).mono ?_; rintro e w' ⟨rfl, hB'⟩; simp only [hP, hR]; have hB := hB.trans (hB'.mono hB.size); clear hB') | (go_at_call 11; refine (minus_of (by assumption) (by assumption) _).mono ?_; rintro e w' ⟨rfl, hB'⟩; have hB := hB.trans (hB'.mono hB.size); clear hB') | (go_at_call 12; refine (hw _).mono ?_; rintro e w' ⟨rfl, hB'⟩; have hB := hB.trans (hB'.mono hB.size); clear hB'))
          go_ret
          exact ⟨rfl, hB⟩
    · have g2 := good_no ht
      clear hs ht ha
      go_enter Try.func4, Try.ntmps4
      go_wp2_with (first | (go_at_call_of 6 s; refine (g1 _).mono ?_; rintro e w' ⟨rfl, hw'⟩; replace hw' := hw'.symm; subst hw') | (go_at_call_of 6 t; refine (g2 _).mono ?_; rintro e w' ⟨rfl, hw'⟩; replace hw' := hw'.symm; subst hw') | (go_at_call 12; refine (hw _).mono ?_; rintro e w' ⟨rfl, hB'⟩; have hB := hB.trans (hB'.mono hB.size); clear hB'))
      go_ret
      exact ⟨rfl, hB⟩
  · have g1 := good_no hs
    clear hs
    go_enter Try.func4, Try.ntmps4
    go_wp2_with (first | (go_at_call 6; refine (g1 _).mono ?_; rintro e w' ⟨rfl, hw'⟩; replace hw' := hw'.symm; subst hw') | (go_at_call 12; refine (hw _).mono ?_; rintro e w' ⟨rfl, hB'⟩; have hB := hB.trans (hB'.mono hB.size); clear hB'))
    go_ret
    exact ⟨rfl, hB⟩

set_option maxHeartbeats 2000000 in
theorem safeSame_any (s : ByteArray) (w : World) :
    Calls Try.prog 5 #[.string s] w fun e w' => e = .returned (.bool true) ∧ Below w.heap.size w w' := by
  have hw := works_any
  have hB := Below.refl w.heap.size w
  by_cases hs : (Tp.chk s.data.toList).1 = 0
  · obtain ⟨a, ha⟩ := isTy_of hs
    have g1 := good_yes ha
    have hgl : (Tp.enc (Tp.grT a)).length ≤ 64 := by cases a <;> simp [Tp.grT, Tp.enc]
    have hg : IsTy (S (Tp.enc (Tp.grT a))) (Tp.grT a) := ⟨rfl, hgl⟩
    have hq : IsTy ⟨#[63]⟩ .tq := ⟨rfl, by decide⟩
    obtain ⟨hpa, hia⟩ := S_head a
    rw [← ha.eq] at hpa
    have hia' : (s[0]'hpa).toNat = (Tp.hd a).toNat := by
      have e := ha.eq
      subst e
      exact hia hpa
    have hpa' : (0 : Int) < (s.size : Int) := by omega
    have hr := rground_any a
    have v1 := (Tp.safe_refl a).1
    have v1' := (Tp.safe_refl a).2
    have v2 := Tp.pls_q a
    have v3 := Tp.q_mns a
    have v4 := Tp.pls_q (Tp.grT a)
    have v5 := (Tp.mns_ground a).1
    have v6 := (Tp.mns_ground a).2
    generalize S (Tp.enc (Tp.grT a)) = g at *
    clear hs hia hgl
    by_cases k : s.toList = [63]
    · go_enter Try.func5, Try.ntmps5
      go_wp2_with (first | (go_at_call 6; refine (g1 _).mono ?_; rintro e w' ⟨rfl, hw'⟩; replace hw' := hw'.symm; subst hw') | (go_at_call 15; refine (hr _).mono ?_; rintro e w' ⟨rfl, hB'⟩; have hB := hB.trans (hB'.mono hB.size); clear hB') | (go_at_call 10; refine (plus_of (by assumption) (by assumption) _).mono ?_; rintro e w' ⟨rfl, hB'⟩; simp only [v1, v2, v4]; have hB := hB.trans (hB'.mono hB.size); clear hB') | (go_at_call 11; refine (minus_of (by assumption) (by assumption) _).mono ?_; rintro e w' ⟨rfl, hB'⟩; simp only [v1', v3, v5]; have hB := hB.trans (hB'.mono hB.size); clear hB') | (go_at_call 12; refine (hw _).mono ?_; rintro e w' ⟨rfl, hB'⟩; have hB := hB.trans (hB'.mono hB.size); clear hB'))
      go_ret
      exact ⟨rfl, hB⟩
    · have k' : (s.toList == [63]) = false := by simpa using k
      go_enter Try.func5, Try.ntmps5
      go_wp2_with (first | (go_at_call 6; refine (g1 _).mono ?_; rintro e w' ⟨rfl, hw'⟩; replace hw' := hw'.symm; subst hw') | (go_at_call 15; refine (hr _).mono ?_; rintro e w' ⟨rfl, hB'⟩; have hB := hB.trans (hB'.mono hB.size); clear hB') | (go_at_call 10; refine (plus_of (by assumption) (by assumption) _).mono ?_; rintro e w' ⟨rfl, hB'⟩; simp only [v1, v2, v4]; have hB := hB.trans (hB'.mono hB.size); clear hB') | (go_at_call 11; refine (minus_of (by assumption) (by assumption) _).mono ?_; rintro e w' ⟨rfl, hB'⟩; simp only [v1', v3, v5, v6]; have hB := hB.trans (hB'.mono hB.size); clear hB') | (go_at_call 12; refine (hw _).mono ?_; rintro e w' ⟨rfl, hB'⟩; have hB := hB.trans (hB'.mono hB.size); clear hB'))
      go_ret
      exact ⟨rfl, hB⟩
  · have g1 := good_no hs
    clear hs
    go_enter Try.func5, Try.ntmps5
    go_wp2_with (first | (go_at_call 6; refine (g1 _).mono ?_; rintro e w' ⟨rfl, hw'⟩; replace hw' := hw'.symm; subst hw') | (go_at_call 12; refine (hw _).mono ?_; rintro e w' ⟨rfl, hB'⟩; have hB := hB.trans (hB'.mono hB.size); clear hB'))
    go_ret
    exact ⟨rfl, hB⟩
end Go.Proofs.Ytcokgpmgknnihaa
