/- The walk of RelateOrder: where one text is no type, and its first part. -/
import Derived.Test.YtgkmoifibcmooaaOrderE
namespace Go.Proofs.Ytgkmoifibcmooaa
open Go.RowKit

set_option maxRecDepth 100000 in
set_option maxHeartbeats 4000000 in
theorem order_no (s t u : ByteArray) (h : (Tp.chk s.data.toList).1 ≠ 0 ∨ (Tp.chk t.data.toList).1 ≠ 0 ∨ (Tp.chk u.data.toList).1 ≠ 0) (w : World) :
    Calls Try.prog 4 #[.string s, .string t, .string u] w fun e w' => e = .returned (.bool true) ∧ Below w.heap.size w w' := by
  have h1 := lis_any s
  have h2 := lis_any t
  have h3 := lis_any u
  have hl := lives_any
  cases e1 : ((Tp.chk s.data.toList).1 == 0) with
  | false =>
    rw [e1] at h1
    go_enter Try.func4, Try.ntmps4
    go_wp2_with (first | (go_at_call_of 16 s; refine (h1 _).mono ?_; rintro e w' ⟨rfl, hw'⟩; replace hw' := hw'.symm; subst hw') | (go_at_call 15; refine (hl _).mono ?_; rintro e w' ⟨rfl, hB⟩))
    go_ret
    exact ⟨rfl, hB⟩
  | true =>
    rw [e1] at h1
    cases e2 : ((Tp.chk t.data.toList).1 == 0) with
    | false =>
      rw [e2] at h2
      go_enter Try.func4, Try.ntmps4
      go_wp2_with fail
      refine (h1 _).mono ?_
      rintro e w' ⟨rfl, hw'⟩
      replace hw' := hw'.symm; subst hw'
      go_wp2_with fail
      refine (h2 _).mono ?_
      rintro e w' ⟨rfl, hw'⟩
      replace hw' := hw'.symm; subst hw'
      go_wp2_with (go_at_call 15; refine (hl _).mono ?_; rintro e w' ⟨rfl, hB⟩)
      go_ret
      exact ⟨rfl, hB⟩
    | true =>
      rw [e2] at h2
      have e3 : ((Tp.chk u.data.toList).1 == 0) = false := by
        rcases h with h | h | h
        · simp at e1; exact absurd e1 h
        · simp at e2; exact absurd e2 h
        · simpa using h
      rw [e3] at h3
      go_enter Try.func4, Try.ntmps4
      go_wp2_with fail
      refine (h1 _).mono ?_
      rintro e w' ⟨rfl, hw'⟩
      replace hw' := hw'.symm; subst hw'
      go_wp2_with fail
      refine (h2 _).mono ?_
      rintro e w' ⟨rfl, hw'⟩
      replace hw' := hw'.symm; subst hw'
      go_wp2_with fail
      refine (h3 _).mono ?_
      rintro e w' ⟨rfl, hw'⟩
      replace hw' := hw'.symm; subst hw'
      go_wp2_with (go_at_call 15; refine (hl _).mono ?_; rintro e w' ⟨rfl, hB⟩)
      go_ret
      exact ⟨rfl, hB⟩

set_option maxRecDepth 100000 in
set_option maxHeartbeats 10000000 in
theorem order_yes (s t u : ByteArray) (a b c : Tp.Ty) (ha : IsTy s a) (hb : IsTy t b) (hc : IsTy u c) (w : World) :
    Calls Try.prog 4 #[.string s, .string t, .string u] w fun e w' => e = .returned (.bool true) ∧ Below w.heap.size w w' := by
  have hq := isTy_q
  have paa := Tp.prc_refl a
  have paq := Tp.prc_q a
  have HA : Aside (Tp.prc a b = true → Tp.prc b a = true → (s.toList != t.toList) = false) := by
    intro h k; rw [ha.inj hb (Tp.prc_anti h k)]; simp
  have HT : Aside (Tp.prc a b = true → Tp.prc b c = true → Tp.prc a c = true) := fun h k => Tp.prc_trans h k
  have hB : Below w.heap.size w w := Below.refl _ _
  go_enter Try.func4, Try.ntmps4
  go_upto_region 3 with (first | (go_at_call 16; refine (lis_yes (by assumption) _).mono ?_; rintro e w' ⟨rfl, hw'⟩; replace hw' := hw'.symm; subst hw'))
  go_cut [70] (fun x wx => x = .bool false ∧ Below w.heap.size w wx)
  case first =>
    go_wp2_with (first | (go_at_call 13; refine (precise_of (by assumption) (by assumption) _).mono ?_; rintro e w' ⟨rfl, hB'⟩; have hB := hB.trans (hB'.mono hB.size); clear hB'))
    all_goals
      go_meet
      case rel =>
        refine ⟨?_, hB⟩
        first | rfl | (rw [HT.out (by assumption) (by assumption)]; rfl) | (exfalso; have hx := HA.out (by assumption) (by assumption); simp_all)
  case rest =>
    clear hB paa paq hq
    obtain ⟨rfl, hB⟩ := hcut
    go_upto_region 5 with fail
    exact order_a s t u a b c ha hb hc w _ hB _ (by assumption) _ (by assumption) _ _ _ _ _ _ _ _ _ _ _ _ _ _ _ _ _ _ _ _ _ _ _ _ _ _ _ _ _ _ _ _ _ _ _ _ _ _ _ _ _ _ _ _ _ _ _ _ _ _ _ _ _ _ _ _ _ _ _ _ _ _ _ _ _ _ _ _ _ _ _ _ _ _ _ _ _ _ _ _ _ _ _ _ _ _ _ _ _ _ _ _ _ _ _ _ _ _ _ _ _ _ _ _ _ _ _ _ _ _ _ _ _ _ _ _ _ _ _ _ _ _ _ _ _ _ _ _ _ _ _ _ _ _ _ _ _ _ _ _ _ _ _ _ _ _ _ _ _ _ _ _ _ _ _ _ _ _ _ _ _ _ _ _ _ _ _ _ _ _ _ _ _ _ _ _ _ _ _ _ _ _ _ _ _ _ _ _ _ _ _ _ _ _ _ _ _ _ _ _ _ _ _ _ _ _ _ _ _ _ _ _ _ _ _ _ _ _ _ _ _ _ _ _ _ _ _ _ _
end Go.Proofs.Ytgkmoifibcmooaa
