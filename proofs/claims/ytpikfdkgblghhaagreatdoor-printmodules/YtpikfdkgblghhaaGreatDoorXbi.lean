/- Which nodes may be: what the document's May answers. -/
import Derived.Test.YtpikfdkgblghhaaGreatDoorXbb
namespace Go.Proofs.YtpikfdkgblghhaaGreatDoor
open Go.RowKit
set_option maxRecDepth 100000

theorem bset2 {a b : World} (h : Below a.heap.size a b) {o : Nat} {v : Value} : Below a.heap.size a (b.setCell ⟨a.heap.size + 1, o, none⟩ v) := h.setCell (Nat.le_succ _) v
theorem rquote_node (s : ByteArray) (hs : s.size ≤ maxLen) (w : World) :
    Calls Tryz.prog 107 #[.string s] w fun e w' => ∃ (q : ByteArray) (er : Int), e = .returned (.tuple #[.string q, .int .i64 er]) ∧ (er == 0) = (Tx.quoted s.data.toList).isSome ∧ w' = w := by
  refine (refQuote_any s hs w).mono ?_
  rintro e w' ⟨hq, hB⟩
  cases h : Tx.quoted s.data.toList with
  | none => rw [h] at hq; exact ⟨_, _, hq, rfl, hB⟩
  | some q => rw [h] at hq; exact ⟨_, _, hq, rfl, hB⟩

set_option maxHeartbeats 4000000 in
theorem rm_var (kids n : Int) (s t u : ByteArray) (ln co : Int) (hs : s.size ≤ maxLen) (w : World) :
    Calls Tryz.prog 57 #[.agg #[.int .i8 4, .int .i64 kids, .int .i64 n, .string s, .string t, .string u, .int .i64 ln, .int .i64 co]] w fun e w' => e = .returned (.bool (Tr.mayB ⟨4, kids, n, s, t, u, ln, co⟩)) ∧ Below w.heap.size w w' := by
  have ha : ∀ w, Calls Tryz.prog 106 #[.int .i8 4] w fun e w' => e = .returned (.tuple #[.int .i64 0, .bool true]) ∧ w' = w := refArity_any 4
  have HM : Aside (Tr.mayB ⟨4, kids, n, s, t, u, ln, co⟩ = (kids == 0 && n == 0 && nameB s.data.toList && t.toList.isEmpty && u.toList.isEmpty)) := by show _ = _; simp only [str_empty]; rfl
  have hn := refIsName_any s hs
  generalize nameB s.data.toList = f2 at *
  by_cases hk : kids = 0
  · subst hk
    go_enter Tryz.func57, Tryz.ntmps57
    go_wp2_with (first | (go_at_call 106; refine (ha _).mono ?_; rintro e w' ⟨rfl, hw'⟩; replace hw' := hw'.symm; subst hw') | (go_at_call 70; refine (hn _).mono ?_; rintro e w2 ⟨rfl, hB2⟩; have hc2 := fun o => (bcell hB2).1 w.heap.size o (by first | (simp; done) | (simp; omega) | omega); have hf2 := fun o => (bcell hB2).2 w.heap.size o (by first | (simp; done) | (simp; omega) | omega); have hd2 := fun o => (bcell hB2).1 (w.heap.size + 1) o (by first | (simp; done) | (simp; omega) | omega); have hg2 := fun o => (bcell hB2).2 (w.heap.size + 1) o (by first | (simp; done) | (simp; omega) | omega); have hz2 : w.heap.size + 1 < w2.heap.size := by have := hB2.size; (try simp at this); omega))
    all_goals
      go_ret
      rw [HM.out]
      go_light
      refine ⟨ret_bool ?_, ?_⟩
      · clear HM
        first
          | (simp [*]; done)
          | (simp [*]; intros; omega)
          | grind
      · repeat (first | exact Below.refl _ _ | refine bset ?_ | refine bset2 ?_ | refine balloc ?_ _ | refine bt ?_ (by assumption))
  · have hk' : (kids != 0) = true := by simpa using hk
    have hk2 : (kids == 0) = false := by simpa using hk
    go_enter Tryz.func57, Tryz.ntmps57
    go_wp2_with ((go_at_call 106; refine (ha _).mono ?_; rintro e w' ⟨rfl, hw'⟩; replace hw' := hw'.symm; subst hw'))
    all_goals
      go_ret
      rw [HM.out]
      go_light
      refine ⟨ret_bool ?_, ?_⟩
      · clear HM
        first
          | (simp [*]; done)
          | (simp [*]; intros; omega)
          | grind
      · repeat (first | exact Below.refl _ _ | refine bset ?_ | refine bset2 ?_ | refine balloc ?_ _ | refine bt ?_ (by assumption))

set_option maxHeartbeats 4000000 in
theorem rm_let (kids n : Int) (s t u : ByteArray) (ln co : Int) (hs : s.size ≤ maxLen) (w : World) :
    Calls Tryz.prog 57 #[.agg #[.int .i8 8, .int .i64 kids, .int .i64 n, .string s, .string t, .string u, .int .i64 ln, .int .i64 co]] w fun e w' => e = .returned (.bool (Tr.mayB ⟨8, kids, n, s, t, u, ln, co⟩)) ∧ Below w.heap.size w w' := by
  have ha : ∀ w, Calls Tryz.prog 106 #[.int .i8 8] w fun e w' => e = .returned (.tuple #[.int .i64 2, .bool true]) ∧ w' = w := refArity_any 8
  have HM : Aside (Tr.mayB ⟨8, kids, n, s, t, u, ln, co⟩ = (kids == 2 && n == 0 && nameB s.data.toList && noteB t.data.toList && u.toList.isEmpty)) := by show _ = _; simp only [str_empty]; rfl
  have hn := refIsName_any s hs
  generalize nameB s.data.toList = f2 at *
  have ht := isNote_any t
  generalize noteB t.data.toList = f3 at *
  by_cases hk : kids = 2
  · subst hk
    go_enter Tryz.func57, Tryz.ntmps57
    go_wp2_with (first | (go_at_call 106; refine (ha _).mono ?_; rintro e w' ⟨rfl, hw'⟩; replace hw' := hw'.symm; subst hw') | (go_at_call 70; refine (hn _).mono ?_; rintro e w2 ⟨rfl, hB2⟩; have hc2 := fun o => (bcell hB2).1 w.heap.size o (by first | (simp; done) | (simp; omega) | omega); have hf2 := fun o => (bcell hB2).2 w.heap.size o (by first | (simp; done) | (simp; omega) | omega); have hd2 := fun o => (bcell hB2).1 (w.heap.size + 1) o (by first | (simp; done) | (simp; omega) | omega); have hg2 := fun o => (bcell hB2).2 (w.heap.size + 1) o (by first | (simp; done) | (simp; omega) | omega); have hz2 : w.heap.size + 1 < w2.heap.size := by have := hB2.size; (try simp at this); omega) | (go_at_call 71; refine (ht _).mono ?_; rintro e w' ⟨rfl, hw'⟩; replace hw' := hw'.symm; subst hw'))
    all_goals
      go_ret
      rw [HM.out]
      go_light
      refine ⟨ret_bool ?_, ?_⟩
      · clear HM
        first
          | (simp [*]; done)
          | (simp [*]; intros; omega)
          | grind
      · repeat (first | exact Below.refl _ _ | refine bset ?_ | refine bset2 ?_ | refine balloc ?_ _ | refine bt ?_ (by assumption))
  · have hk' : (kids != 2) = true := by simpa using hk
    have hk2 : (kids == 2) = false := by simpa using hk
    go_enter Tryz.func57, Tryz.ntmps57
    go_wp2_with ((go_at_call 106; refine (ha _).mono ?_; rintro e w' ⟨rfl, hw'⟩; replace hw' := hw'.symm; subst hw'))
    all_goals
      go_ret
      rw [HM.out]
      go_light
      refine ⟨ret_bool ?_, ?_⟩
      · clear HM
        first
          | (simp [*]; done)
          | (simp [*]; intros; omega)
          | grind
      · repeat (first | exact Below.refl _ _ | refine bset ?_ | refine bset2 ?_ | refine balloc ?_ _ | refine bt ?_ (by assumption))

set_option maxHeartbeats 4000000 in
theorem rm_as (kids n : Int) (s t u : ByteArray) (ln co : Int) (_ : s.size ≤ maxLen) (w : World) :
    Calls Tryz.prog 57 #[.agg #[.int .i8 29, .int .i64 kids, .int .i64 n, .string s, .string t, .string u, .int .i64 ln, .int .i64 co]] w fun e w' => e = .returned (.bool (Tr.mayB ⟨29, kids, n, s, t, u, ln, co⟩)) ∧ Below w.heap.size w w' := by
  have ha : ∀ w, Calls Tryz.prog 106 #[.int .i8 29] w fun e w' => e = .returned (.tuple #[.int .i64 1, .bool true]) ∧ w' = w := refArity_any 29
  have HM : Aside (Tr.mayB ⟨29, kids, n, s, t, u, ln, co⟩ = (kids == 1 && n == 0 && s.toList.isEmpty && typB t.data.toList && u.toList.isEmpty)) := by show _ = _; simp only [str_empty]; rfl
  have ht := refIsType_any t
  generalize typB t.data.toList = f3 at *
  by_cases hk : kids = 1
  · subst hk
    go_enter Tryz.func57, Tryz.ntmps57
    go_wp2_with (first | (go_at_call 106; refine (ha _).mono ?_; rintro e w' ⟨rfl, hw'⟩; replace hw' := hw'.symm; subst hw') | (go_at_call 109; refine (ht _).mono ?_; rintro e w' ⟨rfl, hw'⟩; replace hw' := hw'.symm; subst hw'))
    all_goals
      go_ret
      rw [HM.out]
      go_light
      refine ⟨ret_bool ?_, ?_⟩
      · clear HM
        first
          | (simp [*]; done)
          | (simp [*]; intros; omega)
          | grind
      · repeat (first | exact Below.refl _ _ | refine bset ?_ | refine bset2 ?_ | refine balloc ?_ _ | refine bt ?_ (by assumption))
  · have hk' : (kids != 1) = true := by simpa using hk
    have hk2 : (kids == 1) = false := by simpa using hk
    go_enter Tryz.func57, Tryz.ntmps57
    go_wp2_with ((go_at_call 106; refine (ha _).mono ?_; rintro e w' ⟨rfl, hw'⟩; replace hw' := hw'.symm; subst hw'))
    all_goals
      go_ret
      rw [HM.out]
      go_light
      refine ⟨ret_bool ?_, ?_⟩
      · clear HM
        first
          | (simp [*]; done)
          | (simp [*]; intros; omega)
          | grind
      · repeat (first | exact Below.refl _ _ | refine bset ?_ | refine bset2 ?_ | refine balloc ?_ _ | refine bt ?_ (by assumption))

set_option maxHeartbeats 4000000 in
theorem rm_num (kids n : Int) (s t u : ByteArray) (ln co : Int) (_ : s.size ≤ maxLen) (w : World) :
    Calls Tryz.prog 57 #[.agg #[.int .i8 1, .int .i64 kids, .int .i64 n, .string s, .string t, .string u, .int .i64 ln, .int .i64 co]] w fun e w' => e = .returned (.bool (Tr.mayB ⟨1, kids, n, s, t, u, ln, co⟩)) ∧ Below w.heap.size w w' := by
  have ha : ∀ w, Calls Tryz.prog 106 #[.int .i8 1] w fun e w' => e = .returned (.tuple #[.int .i64 0, .bool true]) ∧ w' = w := refArity_any 1
  have HM : Aside (Tr.mayB ⟨1, kids, n, s, t, u, ln, co⟩ = (kids == 0 && decide (0 ≤ n) && s.toList.isEmpty && t.toList.isEmpty && u.toList.isEmpty)) := by show _ = _; simp only [str_empty]; rfl
  by_cases hk : kids = 0
  · subst hk
    go_enter Tryz.func57, Tryz.ntmps57
    go_wp2_with (first | (go_at_call 106; refine (ha _).mono ?_; rintro e w' ⟨rfl, hw'⟩; replace hw' := hw'.symm; subst hw'))
    all_goals
      go_ret
      rw [HM.out]
      go_light
      refine ⟨ret_bool ?_, ?_⟩
      · clear HM
        first
          | (simp [*]; done)
          | (simp [*]; intros; omega)
          | grind
      · repeat (first | exact Below.refl _ _ | refine bset ?_ | refine bset2 ?_ | refine balloc ?_ _ | refine bt ?_ (by assumption))
  · have hk' : (kids != 0) = true := by simpa using hk
    have hk2 : (kids == 0) = false := by simpa using hk
    go_enter Tryz.func57, Tryz.ntmps57
    go_wp2_with ((go_at_call 106; refine (ha _).mono ?_; rintro e w' ⟨rfl, hw'⟩; replace hw' := hw'.symm; subst hw'))
    all_goals
      go_ret
      rw [HM.out]
      go_light
      refine ⟨ret_bool ?_, ?_⟩
      · clear HM
        first
          | (simp [*]; done)
          | (simp [*]; intros; omega)
          | grind
      · repeat (first | exact Below.refl _ _ | refine bset ?_ | refine bset2 ?_ | refine balloc ?_ _ | refine bt ?_ (by assumption))

set_option maxHeartbeats 4000000 in
theorem rm_truth (kids n : Int) (s t u : ByteArray) (ln co : Int) (_ : s.size ≤ maxLen) (w : World) :
    Calls Tryz.prog 57 #[.agg #[.int .i8 3, .int .i64 kids, .int .i64 n, .string s, .string t, .string u, .int .i64 ln, .int .i64 co]] w fun e w' => e = .returned (.bool (Tr.mayB ⟨3, kids, n, s, t, u, ln, co⟩)) ∧ Below w.heap.size w w' := by
  have ha : ∀ w, Calls Tryz.prog 106 #[.int .i8 3] w fun e w' => e = .returned (.tuple #[.int .i64 0, .bool true]) ∧ w' = w := refArity_any 3
  have HM : Aside (Tr.mayB ⟨3, kids, n, s, t, u, ln, co⟩ = (kids == 0 && (decide (0 ≤ n) && decide (n ≤ 1)) && s.toList.isEmpty && t.toList.isEmpty && u.toList.isEmpty)) := by show _ = _; simp only [str_empty]; rfl
  by_cases hk : kids = 0
  · subst hk
    go_enter Tryz.func57, Tryz.ntmps57
    go_wp2_with (first | (go_at_call 106; refine (ha _).mono ?_; rintro e w' ⟨rfl, hw'⟩; replace hw' := hw'.symm; subst hw'))
    all_goals
      go_ret
      rw [HM.out]
      go_light
      refine ⟨ret_bool ?_, ?_⟩
      · clear HM
        first
          | (simp [*]; done)
          | (simp [*]; intros; omega)
          | grind
      · repeat (first | exact Below.refl _ _ | refine bset ?_ | refine bset2 ?_ | refine balloc ?_ _ | refine bt ?_ (by assumption))
  · have hk' : (kids != 0) = true := by simpa using hk
    have hk2 : (kids == 0) = false := by simpa using hk
    go_enter Tryz.func57, Tryz.ntmps57
    go_wp2_with ((go_at_call 106; refine (ha _).mono ?_; rintro e w' ⟨rfl, hw'⟩; replace hw' := hw'.symm; subst hw'))
    all_goals
      go_ret
      rw [HM.out]
      go_light
      refine ⟨ret_bool ?_, ?_⟩
      · clear HM
        first
          | (simp [*]; done)
          | (simp [*]; intros; omega)
          | grind
      · repeat (first | exact Below.refl _ _ | refine bset ?_ | refine bset2 ?_ | refine balloc ?_ _ | refine bt ?_ (by assumption))

end Go.Proofs.YtpikfdkgblghhaaGreatDoor
