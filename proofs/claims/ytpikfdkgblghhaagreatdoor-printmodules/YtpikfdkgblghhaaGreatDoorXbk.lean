/- Which nodes may be: what the document's May answers. -/
import Derived.Test.YtpikfdkgblghhaaGreatDoorXbi
namespace Go.Proofs.YtpikfdkgblghhaaGreatDoor
open Go.RowKit
set_option maxRecDepth 100000

set_option maxHeartbeats 4000000 in
theorem rm_cast (kids n : Int) (s t u : ByteArray) (ln co : Int) (_ : s.size ≤ maxLen) (w : World) :
    Calls Tryz.prog 57 #[.agg #[.int .i8 30, .int .i64 kids, .int .i64 n, .string s, .string t, .string u, .int .i64 ln, .int .i64 co]] w fun e w' => e = .returned (.bool (Tr.mayB ⟨30, kids, n, s, t, u, ln, co⟩)) ∧ Below w.heap.size w w' := by
  have ha : ∀ w, Calls Tryz.prog 106 #[.int .i8 30] w fun e w' => e = .returned (.tuple #[.int .i64 1, .bool true]) ∧ w' = w := refArity_any 30
  have HM : Aside (Tr.mayB ⟨30, kids, n, s, t, u, ln, co⟩ = false) := rfl
  · skip
    go_enter Tryz.func57, Tryz.ntmps57
    go_wp2_with ((go_at_call 106; refine (ha _).mono ?_; rintro e w' ⟨rfl, hw'⟩; replace hw' := hw'.symm; subst hw'))
    all_goals
      go_ret
      rw [HM.out]
      go_light
      refine ⟨ret_bool ?_, ?_⟩
      · clear HM
        first
          | (simp [*]; done)
          | (simp [*]; intros; omega)
          | grind
      · repeat (first | exact Below.refl _ _ | refine bset ?_ | refine bset2 ?_ | refine balloc ?_ _ | refine bt ?_ (by assumption))

set_option maxHeartbeats 4000000 in
theorem rm_list (kids n : Int) (s t u : ByteArray) (ln co : Int) (_ : s.size ≤ maxLen) (w : World) :
    Calls Tryz.prog 57 #[.agg #[.int .i8 21, .int .i64 kids, .int .i64 n, .string s, .string t, .string u, .int .i64 ln, .int .i64 co]] w fun e w' => e = .returned (.bool (Tr.mayB ⟨21, kids, n, s, t, u, ln, co⟩)) ∧ Below w.heap.size w w' := by
  have ha : ∀ w, Calls Tryz.prog 106 #[.int .i8 21] w fun e w' => e = .returned (.tuple #[.int .i64 0, .bool false]) ∧ w' = w := refArity_any 21
  have HM : Aside (Tr.mayB ⟨21, kids, n, s, t, u, ln, co⟩ = (decide (0 ≤ kids) && n == 0 && s.toList.isEmpty && t.toList.isEmpty && u.toList.isEmpty)) := by show _ = _; simp only [str_empty]; rfl
  by_cases hk : kids < 0
  · skip
    go_enter Tryz.func57, Tryz.ntmps57
    go_wp2_with ((go_at_call 106; refine (ha _).mono ?_; rintro e w' ⟨rfl, hw'⟩; replace hw' := hw'.symm; subst hw'))
    all_goals
      go_ret
      rw [HM.out]
      go_light
      refine ⟨ret_bool ?_, ?_⟩
      · clear HM
        first
          | (simp [*]; done)
          | (simp [*]; intros; omega)
          | grind
      · repeat (first | exact Below.refl _ _ | refine bset ?_ | refine bset2 ?_ | refine balloc ?_ _ | refine bt ?_ (by assumption))
  · have hk' : decide (kids < 0) = false := by simpa using hk
    go_enter Tryz.func57, Tryz.ntmps57
    go_wp2_with ((go_at_call 106; refine (ha _).mono ?_; rintro e w' ⟨rfl, hw'⟩; replace hw' := hw'.symm; subst hw'))
    all_goals
      go_ret
      rw [HM.out]
      go_light
      refine ⟨ret_bool ?_, ?_⟩
      · clear HM
        first
          | (simp [*]; done)
          | (simp [*]; intros; omega)
          | grind
      · repeat (first | exact Below.refl _ _ | refine bset ?_ | refine bset2 ?_ | refine balloc ?_ _ | refine bt ?_ (by assumption))

set_option maxHeartbeats 4000000 in
theorem rm_other (kind : Int) (h1 : kind ≠ 1) (h2 : kind ≠ 2) (h3 : kind ≠ 3) (h4 : kind ≠ 4) (h5 : kind ≠ 5) (h6 : kind ≠ 6) (h8 : kind ≠ 8) (h29 : kind ≠ 29) (h30 : kind ≠ 30) (h21 : kind ≠ 21) (kids n : Int) (s t u : ByteArray) (ln co : Int) (_ : s.size ≤ maxLen) (w : World) :
    Calls Tryz.prog 57 #[.agg #[.int .i8 kind, .int .i64 kids, .int .i64 n, .string s, .string t, .string u, .int .i64 ln, .int .i64 co]] w fun e w' => e = .returned (.bool (Tr.mayB ⟨kind, kids, n, s, t, u, ln, co⟩)) ∧ Below w.heap.size w w' := by
  have e1 : (kind == 1) = false := by simpa using h1
  have e2 : (kind == 2) = false := by simpa using h2
  have e3 : (kind == 3) = false := by simpa using h3
  have e4 : (kind == 4) = false := by simpa using h4
  have e5 : (kind == 5) = false := by simpa using h5
  have e6 : (kind == 6) = false := by simpa using h6
  have e8 : (kind == 8) = false := by simpa using h8
  have e29 : (kind == 29) = false := by simpa using h29
  have e30 : (kind == 30) = false := by simpa using h30
  have e21 : (kind == 21) = false := by simpa using h21
  have e21' : (kind != 21) = true := by simpa using h21
  have ha := refArity_any kind
  have hK : 0 ≤ Tr.arK kind := by unfold Tr.arK; repeat' split <;> omega
  have HM : Aside (Tr.mayB ⟨kind, kids, n, s, t, u, ln, co⟩ = ((Tr.arF kind && kids == Tr.arK kind) && n == 0 && s.toList.isEmpty && t.toList.isEmpty && u.toList.isEmpty)) := by show _ = _; simp only [str_empty]; simp [Tr.mayB, Tr.fitB, Tr.nB, Tr.sB, Tr.tB, Tr.uB, Tr.nm, h1, h2, h3, h4, h5, h6, h8, h29, h30, h21]
  generalize Tr.arF kind = f at *
  generalize Tr.arK kind = K at *
  clear h1 h2 h3 h4 h5 h6 h8 h29 h30 h21
  cases f
  · skip
    go_enter Tryz.func57, Tryz.ntmps57
    go_wp2_with ((go_at_call 106; refine (ha _).mono ?_; rintro e w' ⟨rfl, hw'⟩; replace hw' := hw'.symm; subst hw'))
    all_goals
      go_ret
      rw [HM.out]
      go_light
      refine ⟨ret_bool ?_, ?_⟩
      · clear HM
        first
          | (simp [*]; done)
          | (simp [*]; intros; omega)
          | grind
      · repeat (first | exact Below.refl _ _ | refine bset ?_ | refine bset2 ?_ | refine balloc ?_ _ | refine bt ?_ (by assumption))
  by_cases hk : kids = K
  · subst hk
    have hk' : decide (kids < 0) = false := by simp; omega
    have hk2 : (kids != kids) = false := by simp
    go_enter Tryz.func57, Tryz.ntmps57
    go_wp2_with ((go_at_call 106; refine (ha _).mono ?_; rintro e w' ⟨rfl, hw'⟩; replace hw' := hw'.symm; subst hw'))
    all_goals
      go_ret
      rw [HM.out]
      go_light
      refine ⟨ret_bool ?_, ?_⟩
      · clear HM
        first
          | (simp [*]; done)
          | (simp [*]; intros; omega)
          | grind
      · repeat (first | exact Below.refl _ _ | refine bset ?_ | refine bset2 ?_ | refine balloc ?_ _ | refine bt ?_ (by assumption))
  · have hk' : (kids != K) = true := by simpa using hk
    have hk2 : (kids == K) = false := by simpa using hk
    go_enter Tryz.func57, Tryz.ntmps57
    go_wp2_with ((go_at_call 106; refine (ha _).mono ?_; rintro e w' ⟨rfl, hw'⟩; replace hw' := hw'.symm; subst hw'))
    all_goals
      go_ret
      rw [HM.out]
      go_light
      refine ⟨ret_bool ?_, ?_⟩
      · clear HM
        first
          | (simp [*]; done)
          | (simp [*]; intros; omega)
          | grind
      · repeat (first | exact Below.refl _ _ | refine bset ?_ | refine bset2 ?_ | refine balloc ?_ _ | refine bt ?_ (by assumption))

end Go.Proofs.YtpikfdkgblghhaaGreatDoor
