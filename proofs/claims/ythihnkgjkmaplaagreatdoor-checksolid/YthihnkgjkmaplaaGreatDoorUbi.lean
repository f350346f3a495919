/- Which nodes may be: what the document's May answers. Which nodes may be: what the document's May answers. Which nodes may be: what the document's May answers. Which nodes may be: what the document's May answers. -/
import Derived.Test.YthihnkgjkmaplaaGreatDoorUbc
namespace Go.Proofs.YthihnkgjkmaplaaGreatDoor
open Go.RowKit
set_option maxRecDepth 100000

theorem bset2 {a b : World} (h : Below a.heap.size a b) {o : Nat} {v : Value} : Below a.heap.size a (b.setCell ⟨a.heap.size + 1, o, none⟩ v) := h.setCell (Nat.le_succ _) v
theorem rquote_node (s : ByteArray) (hs : s.size ≤ maxLen) (w : World) :
    Calls Tryz.prog 110 #[.string s] w fun e w' => ∃ (q : ByteArray) (er : Int), e = .returned (.tuple #[.string q, .int .i64 er]) ∧ (er == 0) = (Tx.quoted s.data.toList).isSome ∧ w' = w := by
  refine (refQuote_any s hs w).mono ?_
  rintro e w' ⟨hq, hB⟩
  cases h : Tx.quoted s.data.toList with
  | none => rw [h] at hq; exact ⟨_, _, hq, rfl, hB⟩
  | some q => rw [h] at hq; exact ⟨_, _, hq, rfl, hB⟩

set_option maxHeartbeats 4000000 in
theorem rm_var (kids n : Int) (s t u : ByteArray) (ln co : Int) (hs : s.size ≤ maxLen) (w : World) :
    Calls Tryz.prog 87 #[.agg #[.int .i8 4, .int .i64 kids, .int .i64 n, .string s, .string t, .string u, .int .i64 ln, .int .i64 co]] w fun e w' => e = .returned (.bool (Tr.mayB ⟨4, kids, n, s, t, u, ln, co⟩)) ∧ Below w.heap.size w w' := by
  have ha : ∀ w, Calls Tryz.prog 109 #[.int .i8 4] w fun e w' => e = .returned (.tuple #[.int .i64 0, .bool true]) ∧ w' = w := refArity_any 4
  have HM : Aside (Tr.mayB ⟨4, kids, n, s, t, u, ln, co⟩ = (kids == 0 && n == 0 && nameB s.data.toList && t.toList.isEmpty && u.toList.isEmpty)) := by show _ = _; simp only [str_empty]; rfl
  have hn := refIsName_any s hs
  generalize nameB s.data.toList = f2 at *
  by_cases hk : kids = 0
  · subst hk
    go_enter Tryz.func87, Tryz.ntmps87
    go_wp2_with (first | (go_at_call 109; refine (ha _).mono ?_; rintro e w' ⟨rfl, hw'⟩; replace hw' := hw'.symm; subst hw') | (go_at_call 57; refine (hn _).mono ?_; rintro e w2 ⟨rfl, hB2⟩; have hc2 := fun o => (bcell hB2).1 w.heap.size o (by first | (simp; done) | (simp; omega) | omega); have hf2 := fun o => (bcell hB2).2 w.heap.size o (by first | (simp; done) | (simp; omega) | omega); have hd2 := fun o => (bcell hB2).1 (w.heap.size + 1) o (by first | (simp; done) | (simp; omega) | omega); have hg2 := fun o => (bcell hB2).2 (w.heap.size + 1) o (by first | (simp; done) | (simp; omega) | omega); have hz2 : w.heap.size + 1 < w2.heap.size := by have := hB2.size; (try simp at this); omega))
    all_goals
      go_ret
      rw [HM.out]
      go_light
      refine ⟨ret_bool ?_, ?_⟩
      · clear HM
        first
          | (simp [*]; done)
          | (simp [*]; intros; omega)
          | grind
      · repeat (first | exact Below.refl _ _ | refine bset ?_ | refine bset2 ?_ | refine balloc ?_ _ | refine bt ?_ (by assumption))
  · have hk' : (kids != 0) = true := by simpa using hk
    have hk2 : (kids == 0) = false := by simpa using hk
    go_enter Tryz.func87, Tryz.ntmps87
    go_wp2_with ((go_at_call 109; refine (ha _).mono ?_; rintro e w' ⟨rfl, hw'⟩; replace hw' := hw'.symm; subst hw'))
    all_goals
      go_ret
      rw [HM.out]
      go_light
      refine ⟨ret_bool ?_, ?_⟩
      · clear HM
        first
          | (simp [*]; done)
          | (simp [*]; intros; omega)
          | grind
      · repeat (first | exact Below.refl _ _ | refine bset ?_ | refine bset2 ?_ | refine balloc ?_ _ | refine bt ?_ (by assumption))

set_option maxHeartbeats 4000000 in
theorem rm_let (kids n : Int) (s t u : ByteArray) (ln co : Int) (hs : s.size ≤ maxLen) (w : World) :
    Calls Tryz.prog 87 #[.agg #[.int .i8 8, .int .i64 kids, .int .i64 n, .string s, .string t, .string u, .int .i64 ln, .int .i64 co]] w fun e w' => e = .returned (.bool (Tr.mayB ⟨8, kids, n, s, t, u, ln, co⟩)) ∧ Below w.heap.size w w' := by
  have ha : ∀ w, Calls Tryz.prog 109 #[.int .i8 8] w fun e w' => e = .returned (.tuple #[.int .i64 2, .bool true]) ∧ w' = w := refArity_any 8
  have HM : Aside (Tr.mayB ⟨8, kids, n, s, t, u, ln, co⟩ = (kids == 2 && n == 0 && nameB s.data.toList && noteB t.data.toList && u.toList.isEmpty)) := by show _ = _; simp only [str_empty]; rfl
  have hn := refIsName_any s hs
  generalize nameB s.data.toList = f2 at *
  have ht := isNote_any t
  generalize noteB t.data.toList = f3 at *
  by_cases hk : kids = 2
  · subst hk
    go_enter Tryz.func87, Tryz.ntmps87
    go_wp2_with (first | (go_at_call 109; refine (ha _).mono ?_; rintro e w' ⟨rfl, hw'⟩; replace hw' := hw'.symm; subst hw') | (go_at_call 57; refine (hn _).mono ?_; rintro e w2 ⟨rfl, hB2⟩; have hc2 := fun o => (bcell hB2).1 w.heap.size o (by first | (simp; done) | (simp; omega) | omega); have hf2 := fun o => (bcell hB2).2 w.heap.size o (by first | (simp; done) | (simp; omega) | omega); have hd2 := fun o => (bcell hB2).1 (w.heap.size + 1) o (by first | (simp; done) | (simp; omega) | omega); have hg2 := fun o => (bcell hB2).2 (w.heap.size + 1) o (by first | (simp; done) | (simp; omega) | omega); have hz2 : w.heap.size + 1 < w2.heap.size := by have := hB2.size; (try simp at this); omega) | (go_at_call 111; refine (ht _).mono ?_; rintro e w' ⟨rfl, hw'⟩; replace hw' := hw'.symm; subst hw'))
    all_goals
      go_ret
      rw [HM.out]
      go_light
      refine ⟨ret_bool ?_, ?_⟩
      · clear HM
        first
          | (simp [*]; done)
          | (simp [*]; intros; omega)
          | grind
      · repeat (first | exact Below.refl _ _ | refine bset ?_ | refine bset2 ?_ | refine balloc ?_ _ | refine bt ?_ (by assumption))
  · have hk' : (kids != 2) = true := by simpa using hk
    have hk2 : (kids == 2) = false := by simpa using hk
    go_enter Tryz.func87, Tryz.ntmps87
    go_wp2_with ((go_at_call 109; refine (ha _).mono ?_; rintro e w' ⟨rfl, hw'⟩; replace hw' := hw'.symm; subst hw'))
    all_goals
      go_ret
      rw [HM.out]
      go_light
      refine ⟨ret_bool ?_, ?_⟩
      · clear HM
        first
          | (simp [*]; done)
          | (simp [*]; intros; omega)
          | grind
      · repeat (first | exact Below.refl _ _ | refine bset ?_ | refine bset2 ?_ | refine balloc ?_ _ | refine bt ?_ (by assumption))

set_option maxHeartbeats 4000000 in
theorem rm_as (kids n : Int) (s t u : ByteArray) (ln co : Int) (_ : s.size ≤ maxLen) (w : World) :
    Calls Tryz.prog 87 #[.agg #[.int .i8 29, .int .i64 kids, .int .i64 n, .string s, .string t, .string u, .int .i64 ln, .int .i64 co]] w fun e w' => e = .returned (.bool (Tr.mayB ⟨29, kids, n, s, t, u, ln, co⟩)) ∧ Below w.heap.size w w' := by
  have ha : ∀ w, Calls Tryz.prog 109 #[.int .i8 29] w fun e w' => e = .returned (.tuple #[.int .i64 1, .bool true]) ∧ w' = w := refArity_any 29
  have HM : Aside (Tr.mayB ⟨29, kids, n, s, t, u, ln, co⟩ = (kids == 1 && n == 0 && s.toList.isEmpty && typB t.data.toList && u.toList.isEmpty)) := by show _ = _; simp only [str_empty]; rfl
  have ht := refIsType_any t
  generalize typB t.data.toList = f3 at *
  by_cases hk : kids = 1
  · subst hk
    go_enter Tryz.func87, Tryz.ntmps87
    go_wp2_with (first | (go_at_call 109; refine (ha _).mono ?_; rintro e w' ⟨rfl, hw'⟩; replace hw' := hw'.symm; subst hw') | (go_at_call 58; refine (ht _).mono ?_; rintro e w' ⟨rfl, hw'⟩; replace hw' := hw'.symm; subst hw'))
    all_goals
      go_ret
      rw [HM.out]
      go_light
      refine ⟨ret_bool ?_, ?_⟩
      · clear HM
        first
          | (simp [*]; done)
          | (simp [*]; intros; omega)
          | grind
      · repeat (first | exact Below.refl _ _ | refine bset ?_ | refine bset2 ?_ | refine balloc ?_ _ | refine bt ?_ (by assumption))
  · have hk' : (kids != 1) = true := by simpa using hk
    have hk2 : (kids == 1) = false := by simpa using hk
    go_enter Tryz.func87, Tryz.ntmps87
    go_wp2_with ((go_at_call 109; refine (ha _).mono ?_; rintro e w' ⟨rfl, hw'⟩; replace hw' := hw'.symm; subst hw'))
    all_goals
      go_ret
      rw [HM.out]
      go_light
      refine ⟨ret_bool ?_, ?_⟩
      · clear HM
        first
          | (simp [*]; done)
          | (simp [*]; intros; omega)
          | grind
      · repeat (first | exact Below.refl _ _ | refine bset ?_ | refine bset2 ?_ | refine balloc ?_ _ | refine bt ?_ (by assumption))

set_option maxHeartbeats 4000000 in
theorem rm_num (kids n : Int) (s t u : ByteArray) (ln co : Int) (_ : s.size ≤ maxLen) (w : World) :
    Calls Tryz.prog 87 #[.agg #[.int .i8 1, .int .i64 kids, .int .i64 n, .string s, .string t, .string u, .int .i64 ln, .int .i64 co]] w fun e w' => e = .returned (.bool (Tr.mayB ⟨1, kids, n, s, t, u, ln, co⟩)) ∧ Below w.heap.size w w' := by
  have ha : ∀ w, Calls Tryz.prog 109 #[.int .i8 1] w fun e w' => e = .returned (.tuple #[.int .i64 0, .bool true]) ∧ w' = w := refArity_any 1
  have HM : Aside (Tr.mayB ⟨1, kids, n, s, t, u, ln, co⟩ = (kids == 0 && decide (0 ≤ n) && s.toList.isEmpty && t.toList.isEmpty && u.toList.isEmpty)) := by show _ = _; simp only [str_empty]; rfl
  by_cases hk : kids = 0
  · subst hk
    go_enter Tryz.func87, Tryz.ntmps87
    go_wp2_with (first | (go_at_call 109; refine (ha _).mono ?_; rintro e w' ⟨rfl, hw'⟩; replace hw' := hw'.symm; subst hw'))
    all_goals
      go_ret
      rw [HM.out]
      go_light
      refine ⟨ret_bool ?_, ?_⟩
      · clear HM
        first
          | (simp [*]; done)
          | (simp [*]; intros; omega)
          | grind
      · repeat (first | exact Below.refl _ _ | refine bset ?_ | refine bset2 ?_ | refine balloc ?_ _ | refine bt ?_ (by assumption))
  · have hk' : (kids != 0) = true := by simpa using hk
    have hk2 : (kids == 0) = false := by simpa using hk
    go_enter Tryz.func87, Tryz.ntmps87
    go_wp2_with ((go_at_call 109; refine (ha _).mono ?_; rintro e w' ⟨rfl, hw'⟩; replace hw' := hw'.symm; subst hw'))
    all_goals
      go_ret
      rw [HM.out]
      go_light
      refine ⟨ret_bool ?_, ?_⟩
      · clear HM
        first
          | (simp [*]; done)
          | (simp [*]; intros; omega)
          | grind
      · repeat (first | exact Below.refl _ _ | refine bset ?_ | refine bset2 ?_ | refine balloc ?_ _ | refine bt ?_ (by assumption))

set_option maxHeartbeats 4000000 in
theorem rm_truth (kids n : Int) (s t u : ByteArray) (ln co : Int) (_ : s.size ≤ maxLen) (w : World) :
    Calls Tryz.prog 87 #[.agg #[.int .i8 3, .int .i64 kids, .int .i64 n, .string s, .string t, .string u, .int .i64 ln, .int .i64 co]] w fun e w' => e = .returned (.bool (Tr.mayB ⟨3, kids, n, s, t, u, ln, co⟩)) ∧ Below w.heap.size w w' := by
  have ha : ∀ w, Calls Tryz.prog 109 #[.int .i8 3] w fun e w' => e = .returned (.tuple #[.int .i64 0, .bool true]) ∧ w' = w := refArity_any 3
  have HM : Aside (Tr.mayB ⟨3, kids, n, s, t, u, ln, co⟩ = (kids == 0 && (decide (0 ≤ n) && decide (n ≤ 1)) && s.toList.isEmpty && t.toList.isEmpty && u.toList.isEmpty)) := by show _ = _; simp only [str_empty]; rfl
  by_cases hk : kids = 0
  · subst hk
    go_enter Tryz.func87, Tryz.ntmps87
    go_wp2_with (first | (go_at_call 109; refine (ha _).mono ?_; rintro e w' ⟨rfl, hw'⟩; replace hw' := hw'.symm; subst hw'))
    all_goals
      go_ret
      rw [HM.out]
      go_light
      refine ⟨ret_bool ?_, ?_⟩
      · clear HM
        first
          | (simp [*]; done)
          | (simp [*]; intros; omega)
          | grind
      · repeat (first | exact Below.refl _ _ | refine bset ?_ | refine bset2 ?_ | refine balloc ?_ _ | refine bt ?_ (by assumption))
  · have hk' : (kids != 0) = true := by simpa using hk
    have hk2 : (kids == 0) = false := by simpa using hk
    go_enter Tryz.func87, Tryz.ntmps87
    go_wp2_with ((go_at_call 109; refine (ha _).mono ?_; rintro e w' ⟨rfl, hw'⟩; replace hw' := hw'.symm; subst hw'))
    all_goals
      go_ret
      rw [HM.out]
      go_light
      refine ⟨ret_bool ?_, ?_⟩
      · clear HM
        first
          | (simp [*]; done)
          | (simp [*]; intros; omega)
          | grind
      · repeat (first | exact Below.refl _ _ | refine bset ?_ | refine bset2 ?_ | refine balloc ?_ _ | refine bt ?_ (by assumption))

end Go.Proofs.YthihnkgjkmaplaaGreatDoor
namespace Go.Proofs.YthihnkgjkmaplaaGreatDoor
open Go.RowKit
set_option maxRecDepth 100000

set_option maxHeartbeats 4000000 in
theorem rm_fn (kids n : Int) (s t u : ByteArray) (ln co : Int) (hs : s.size ≤ maxLen) (w : World) :
    Calls Tryz.prog 87 #[.agg #[.int .i8 5, .int .i64 kids, .int .i64 n, .string s, .string t, .string u, .int .i64 ln, .int .i64 co]] w fun e w' => e = .returned (.bool (Tr.mayB ⟨5, kids, n, s, t, u, ln, co⟩)) ∧ Below w.heap.size w w' := by
  have ha : ∀ w, Calls Tryz.prog 109 #[.int .i8 5] w fun e w' => e = .returned (.tuple #[.int .i64 1, .bool true]) ∧ w' = w := refArity_any 5
  have HM : Aside (Tr.mayB ⟨5, kids, n, s, t, u, ln, co⟩ = (kids == 1 && n == 0 && nameB s.data.toList && noteB t.data.toList && noteB u.data.toList)) := by show _ = _; (try simp only [str_empty]); rfl
  have hn := refIsName_any s hs
  generalize nameB s.data.toList = f2 at *
  have ht := isNote_any t
  have hu := isNote_any u
  generalize noteB t.data.toList = f3 at *
  generalize noteB u.data.toList = f4 at *
  by_cases hk : kids = 1
  · subst hk
    go_enter Tryz.func87, Tryz.ntmps87
    go_wp2_with (first | (go_at_call 109; refine (ha _).mono ?_; rintro e w' ⟨rfl, hw'⟩; replace hw' := hw'.symm; subst hw') | (go_at_call 57; refine (hn _).mono ?_; rintro e w2 ⟨rfl, hB2⟩; have hc2 := fun o => (bcell hB2).1 w.heap.size o (by first | (simp; done) | (simp; omega) | omega); have hf2 := fun o => (bcell hB2).2 w.heap.size o (by first | (simp; done) | (simp; omega) | omega); have hd2 := fun o => (bcell hB2).1 (w.heap.size + 1) o (by first | (simp; done) | (simp; omega) | omega); have hg2 := fun o => (bcell hB2).2 (w.heap.size + 1) o (by first | (simp; done) | (simp; omega) | omega); have hz2 : w.heap.size + 1 < w2.heap.size := by have := hB2.size; (try simp at this); omega) | (go_at_call_of 111 t; refine (ht _).mono ?_; rintro e w' ⟨rfl, hw'⟩; replace hw' := hw'.symm; subst hw') | (go_at_call_of 111 u; refine (hu _).mono ?_; rintro e w' ⟨rfl, hw'⟩; replace hw' := hw'.symm; subst hw'))
    all_goals
      go_ret
      rw [HM.out]
      go_light
      refine ⟨ret_bool ?_, ?_⟩
      · clear HM
        first
          | (simp [*]; done)
          | (simp [*]; intros; omega)
          | grind
      · repeat (first | exact Below.refl _ _ | refine bset ?_ | refine bset2 ?_ | refine balloc ?_ _ | refine bt ?_ (by assumption))
  · have hk' : (kids != 1) = true := by simpa using hk
    have hk2 : (kids == 1) = false := by simpa using hk
    go_enter Tryz.func87, Tryz.ntmps87
    go_wp2_with ((go_at_call 109; refine (ha _).mono ?_; rintro e w' ⟨rfl, hw'⟩; replace hw' := hw'.symm; subst hw'))
    all_goals
      go_ret
      rw [HM.out]
      go_light
      refine ⟨ret_bool ?_, ?_⟩
      · clear HM
        first
          | (simp [*]; done)
          | (simp [*]; intros; omega)
          | grind
      · repeat (first | exact Below.refl _ _ | refine bset ?_ | refine bset2 ?_ | refine balloc ?_ _ | refine bt ?_ (by assumption))

set_option maxHeartbeats 4000000 in
theorem rm_rec (kids n : Int) (s t u : ByteArray) (ln co : Int) (hs : s.size ≤ maxLen) (w : World) :
    Calls Tryz.prog 87 #[.agg #[.int .i8 6, .int .i64 kids, .int .i64 n, .string s, .string t, .string u, .int .i64 ln, .int .i64 co]] w fun e w' => e = .returned (.bool (Tr.mayB ⟨6, kids, n, s, t, u, ln, co⟩)) ∧ Below w.heap.size w w' := by
  have ha : ∀ w, Calls Tryz.prog 109 #[.int .i8 6] w fun e w' => e = .returned (.tuple #[.int .i64 1, .bool true]) ∧ w' = w := refArity_any 6
  have HM : Aside (Tr.mayB ⟨6, kids, n, s, t, u, ln, co⟩ = (kids == 1 && n == 0 && (two s.data.toList).2.2 && noteB t.data.toList && noteB u.data.toList)) := by show _ = _; (try simp only [str_empty]); simp only [two_is]; rfl
  have hn := twoNames_any s hs
  generalize (two s.data.toList).2.2 = f2 at *
  generalize S (two s.data.toList).1 = sx at *
  generalize S (two s.data.toList).2.1 = sy at *
  have ht := isNote_any t
  have hu := isNote_any u
  generalize noteB t.data.toList = f3 at *
  generalize noteB u.data.toList = f4 at *
  by_cases hk : kids = 1
  · subst hk
    go_enter Tryz.func87, Tryz.ntmps87
    go_wp2_with (first | (go_at_call 109; refine (ha _).mono ?_; rintro e w' ⟨rfl, hw'⟩; replace hw' := hw'.symm; subst hw') | (go_at_call 112; refine (hn _).mono ?_; rintro e w2 ⟨rfl, hB2⟩; have hc2 := fun o => (bcell hB2).1 w.heap.size o (by first | (simp; done) | (simp; omega) | omega); have hf2 := fun o => (bcell hB2).2 w.heap.size o (by first | (simp; done) | (simp; omega) | omega); have hd2 := fun o => (bcell hB2).1 (w.heap.size + 1) o (by first | (simp; done) | (simp; omega) | omega); have hg2 := fun o => (bcell hB2).2 (w.heap.size + 1) o (by first | (simp; done) | (simp; omega) | omega); have hz2 : w.heap.size + 1 < w2.heap.size := by have := hB2.size; (try simp at this); omega) | (go_at_call_of 111 t; refine (ht _).mono ?_; rintro e w' ⟨rfl, hw'⟩; replace hw' := hw'.symm; subst hw') | (go_at_call_of 111 u; refine (hu _).mono ?_; rintro e w' ⟨rfl, hw'⟩; replace hw' := hw'.symm; subst hw'))
    all_goals
      go_ret
      rw [HM.out]
      go_light
      refine ⟨ret_bool ?_, ?_⟩
      · clear HM
        first
          | (simp [*]; done)
          | (simp [*]; intros; omega)
          | grind
      · repeat (first | exact Below.refl _ _ | refine bset ?_ | refine bset2 ?_ | refine balloc ?_ _ | refine bt ?_ (by assumption))
  · have hk' : (kids != 1) = true := by simpa using hk
    have hk2 : (kids == 1) = false := by simpa using hk
    go_enter Tryz.func87, Tryz.ntmps87
    go_wp2_with ((go_at_call 109; refine (ha _).mono ?_; rintro e w' ⟨rfl, hw'⟩; replace hw' := hw'.symm; subst hw'))
    all_goals
      go_ret
      rw [HM.out]
      go_light
      refine ⟨ret_bool ?_, ?_⟩
      · clear HM
        first
          | (simp [*]; done)
          | (simp [*]; intros; omega)
          | grind
      · repeat (first | exact Below.refl _ _ | refine bset ?_ | refine bset2 ?_ | refine balloc ?_ _ | refine bt ?_ (by assumption))

set_option maxHeartbeats 4000000 in
theorem rm_str (kids n : Int) (s t u : ByteArray) (ln co : Int) (hs : s.size ≤ maxLen) (w : World) :
    Calls Tryz.prog 87 #[.agg #[.int .i8 2, .int .i64 kids, .int .i64 n, .string s, .string t, .string u, .int .i64 ln, .int .i64 co]] w fun e w' => e = .returned (.bool (Tr.mayB ⟨2, kids, n, s, t, u, ln, co⟩)) ∧ Below w.heap.size w w' := by
  have ha : ∀ w, Calls Tryz.prog 109 #[.int .i8 2] w fun e w' => e = .returned (.tuple #[.int .i64 0, .bool true]) ∧ w' = w := refArity_any 2
  have HM : Aside (Tr.mayB ⟨2, kids, n, s, t, u, ln, co⟩ = (kids == 0 && n == 0 && (Tx.quoted s.data.toList).isSome && t.toList.isEmpty && u.toList.isEmpty)) := by show _ = _; (try simp only [str_empty]); rfl
  have hq := rquote_node s hs
  generalize (Tx.quoted s.data.toList).isSome = f2 at *
  by_cases hk : kids = 0
  · subst hk
    go_enter Tryz.func87, Tryz.ntmps87
    go_wp2_with (first | (go_at_call 109; refine (ha _).mono ?_; rintro e w' ⟨rfl, hw'⟩; replace hw' := hw'.symm; subst hw') | (go_at_call 110; refine (hq _).mono ?_; rintro e w' ⟨q, er, rfl, her, hw'⟩; replace hw' := hw'.symm; subst hw'))
    all_goals
      go_ret
      rw [HM.out]
      go_light
      refine ⟨ret_bool ?_, ?_⟩
      · clear HM
        first
          | (simp [*]; done)
          | (simp [*]; intros; omega)
          | grind
      · repeat (first | exact Below.refl _ _ | refine bset ?_ | refine bset2 ?_ | refine balloc ?_ _ | refine bt ?_ (by assumption))
  · have hk' : (kids != 0) = true := by simpa using hk
    have hk2 : (kids == 0) = false := by simpa using hk
    go_enter Tryz.func87, Tryz.ntmps87
    go_wp2_with ((go_at_call 109; refine (ha _).mono ?_; rintro e w' ⟨rfl, hw'⟩; replace hw' := hw'.symm; subst hw'))
    all_goals
      go_ret
      rw [HM.out]
      go_light
      refine ⟨ret_bool ?_, ?_⟩
      · clear HM
        first
          | (simp [*]; done)
          | (simp [*]; intros; omega)
          | grind
      · repeat (first | exact Below.refl _ _ | refine bset ?_ | refine bset2 ?_ | refine balloc ?_ _ | refine bt ?_ (by assumption))

end Go.Proofs.YthihnkgjkmaplaaGreatDoor
namespace Go.Proofs.YthihnkgjkmaplaaGreatDoor
open Go.RowKit
set_option maxRecDepth 100000

set_option maxHeartbeats 4000000 in
theorem rm_cast (kids n : Int) (s t u : ByteArray) (ln co : Int) (_ : s.size ≤ maxLen) (w : World) :
    Calls Tryz.prog 87 #[.agg #[.int .i8 30, .int .i64 kids, .int .i64 n, .string s, .string t, .string u, .int .i64 ln, .int .i64 co]] w fun e w' => e = .returned (.bool (Tr.mayB ⟨30, kids, n, s, t, u, ln, co⟩)) ∧ Below w.heap.size w w' := by
  have ha : ∀ w, Calls Tryz.prog 109 #[.int .i8 30] w fun e w' => e = .returned (.tuple #[.int .i64 1, .bool true]) ∧ w' = w := refArity_any 30
  have HM : Aside (Tr.mayB ⟨30, kids, n, s, t, u, ln, co⟩ = false) := rfl
  · skip
    go_enter Tryz.func87, Tryz.ntmps87
    go_wp2_with ((go_at_call 109; refine (ha _).mono ?_; rintro e w' ⟨rfl, hw'⟩; replace hw' := hw'.symm; subst hw'))
    all_goals
      go_ret
      rw [HM.out]
      go_light
      refine ⟨ret_bool ?_, ?_⟩
      · clear HM
        first
          | (simp [*]; done)
          | (simp [*]; intros; omega)
          | grind
      · repeat (first | exact Below.refl _ _ | refine bset ?_ | refine bset2 ?_ | refine balloc ?_ _ | refine bt ?_ (by assumption))

set_option maxHeartbeats 4000000 in
theorem rm_list (kids n : Int) (s t u : ByteArray) (ln co : Int) (_ : s.size ≤ maxLen) (w : World) :
    Calls Tryz.prog 87 #[.agg #[.int .i8 21, .int .i64 kids, .int .i64 n, .string s, .string t, .string u, .int .i64 ln, .int .i64 co]] w fun e w' => e = .returned (.bool (Tr.mayB ⟨21, kids, n, s, t, u, ln, co⟩)) ∧ Below w.heap.size w w' := by
  have ha : ∀ w, Calls Tryz.prog 109 #[.int .i8 21] w fun e w' => e = .returned (.tuple #[.int .i64 0, .bool false]) ∧ w' = w := refArity_any 21
  have HM : Aside (Tr.mayB ⟨21, kids, n, s, t, u, ln, co⟩ = (decide (0 ≤ kids) && n == 0 && s.toList.isEmpty && t.toList.isEmpty && u.toList.isEmpty)) := by show _ = _; simp only [str_empty]; rfl
  by_cases hk : kids < 0
  · skip
    go_enter Tryz.func87, Tryz.ntmps87
    go_wp2_with ((go_at_call 109; refine (ha _).mono ?_; rintro e w' ⟨rfl, hw'⟩; replace hw' := hw'.symm; subst hw'))
    all_goals
      go_ret
      rw [HM.out]
      go_light
      refine ⟨ret_bool ?_, ?_⟩
      · clear HM
        first
          | (simp [*]; done)
          | (simp [*]; intros; omega)
          | grind
      · repeat (first | exact Below.refl _ _ | refine bset ?_ | refine bset2 ?_ | refine balloc ?_ _ | refine bt ?_ (by assumption))
  · have hk' : decide (kids < 0) = false := by simpa using hk
    go_enter Tryz.func87, Tryz.ntmps87
    go_wp2_with ((go_at_call 109; refine (ha _).mono ?_; rintro e w' ⟨rfl, hw'⟩; replace hw' := hw'.symm; subst hw'))
    all_goals
      go_ret
      rw [HM.out]
      go_light
      refine ⟨ret_bool ?_, ?_⟩
      · clear HM
        first
          | (simp [*]; done)
          | (simp [*]; intros; omega)
          | grind
      · repeat (first | exact Below.refl _ _ | refine bset ?_ | refine bset2 ?_ | refine balloc ?_ _ | refine bt ?_ (by assumption))

set_option maxHeartbeats 4000000 in
theorem rm_other (kind : Int) (h1 : kind ≠ 1) (h2 : kind ≠ 2) (h3 : kind ≠ 3) (h4 : kind ≠ 4) (h5 : kind ≠ 5) (h6 : kind ≠ 6) (h8 : kind ≠ 8) (h29 : kind ≠ 29) (h30 : kind ≠ 30) (h21 : kind ≠ 21) (kids n : Int) (s t u : ByteArray) (ln co : Int) (_ : s.size ≤ maxLen) (w : World) :
    Calls Tryz.prog 87 #[.agg #[.int .i8 kind, .int .i64 kids, .int .i64 n, .string s, .string t, .string u, .int .i64 ln, .int .i64 co]] w fun e w' => e = .returned (.bool (Tr.mayB ⟨kind, kids, n, s, t, u, ln, co⟩)) ∧ Below w.heap.size w w' := by
  have e1 : (kind == 1) = false := by simpa using h1
  have e2 : (kind == 2) = false := by simpa using h2
  have e3 : (kind == 3) = false := by simpa using h3
  have e4 : (kind == 4) = false := by simpa using h4
  have e5 : (kind == 5) = false := by simpa using h5
  have e6 : (kind == 6) = false := by simpa using h6
  have e8 : (kind == 8) = false := by simpa using h8
  have e29 : (kind == 29) = false := by simpa using h29
  have e30 : (kind == 30) = false := by simpa using h30
  have e21 : (kind == 21) = false := by simpa using h21
  have e21' : (kind != 21) = true := by simpa using h21
  have ha := refArity_any kind
  have hK : 0 ≤ Tr.arK kind := by unfold Tr.arK; repeat' split <;> omega
  have HM : Aside (Tr.mayB ⟨kind, kids, n, s, t, u, ln, co⟩ = ((Tr.arF kind && kids == Tr.arK kind) && n == 0 && s.toList.isEmpty && t.toList.isEmpty && u.toList.isEmpty)) := by show _ = _; simp only [str_empty]; simp [Tr.mayB, Tr.fitB, Tr.nB, Tr.sB, Tr.tB, Tr.uB, Tr.nm, h1, h2, h3, h4, h5, h6, h8, h29, h30, h21]
  generalize Tr.arF kind = f at *
  generalize Tr.arK kind = K at *
  clear h1 h2 h3 h4 h5 h6 h8 h29 h30 h21
  cases f
  · skip
    go_enter Tryz.func87, Tryz.ntmps87
    go_wp2_with ((go_at_call 109; refine (ha _).mono ?_; rintro e w' ⟨rfl, hw'⟩; replace hw' := hw'.symm; subst hw'))
    all_goals
      go_ret
      rw [HM.out]
      go_light
      refine ⟨ret_bool ?_, ?_⟩
      · clear HM
        first
          | (simp [*]; done)
          | (simp [*]; intros; omega)
          | grind
      · repeat (first | exact Below.refl _ _ | refine bset ?_ | refine bset2 ?_ | refine balloc ?_ _ | refine bt ?_ (by assumption))
  by_cases hk : kids = K
  · subst hk
    have hk' : decide (kids < 0) = false := by simp; omega
    have hk2 : (kids != kids) = false := by simp
    go_enter Tryz.func87, Tryz.ntmps87
    go_wp2_with ((go_at_call 109; refine (ha _).mono ?_; rintro e w' ⟨rfl, hw'⟩; replace hw' := hw'.symm; subst hw'))
    all_goals
      go_ret
      rw [HM.out]
      go_light
      refine ⟨ret_bool ?_, ?_⟩
      · clear HM
        first
          | (simp [*]; done)
          | (simp [*]; intros; omega)
          | grind
      · repeat (first | exact Below.refl _ _ | refine bset ?_ | refine bset2 ?_ | refine balloc ?_ _ | refine bt ?_ (by assumption))
  · have hk' : (kids != K) = true := by simpa using hk
    have hk2 : (kids == K) = false := by simpa using hk
    go_enter Tryz.func87, Tryz.ntmps87
    go_wp2_with ((go_at_call 109; refine (ha _).mono ?_; rintro e w' ⟨rfl, hw'⟩; replace hw' := hw'.symm; subst hw'))
    all_goals
      go_ret
      rw [HM.out]
      go_light
      refine ⟨ret_bool ?_, ?_⟩
      · clear HM
        first
          | (simp [*]; done)
          | (simp [*]; intros; omega)
          | grind
      · repeat (first | exact Below.refl _ _ | refine bset ?_ | refine bset2 ?_ | refine balloc ?_ _ | refine bt ?_ (by assumption))

end Go.Proofs.YthihnkgjkmaplaaGreatDoor
namespace Go.Proofs.YthihnkgjkmaplaaGreatDoor
open Go.RowKit
set_option maxRecDepth 100000
theorem rmay_any (x : Tr.Nd) (hs : x.s.size ≤ maxLen) (w : World) :
    Calls Tryz.prog 87 #[Tr.agg x] w fun e w' => e = .returned (.bool (Tr.mayB x)) ∧ Below w.heap.size w w' := by
  obtain ⟨kind, kids, n, s, t, u, ln, co⟩ := x
  by_cases h1 : kind = 1
  · subst h1; exact rm_num kids n s t u ln co hs w
  by_cases h2 : kind = 2
  · subst h2; exact rm_str kids n s t u ln co hs w
  by_cases h3 : kind = 3
  · subst h3; exact rm_truth kids n s t u ln co hs w
  by_cases h4 : kind = 4
  · subst h4; exact rm_var kids n s t u ln co hs w
  by_cases h5 : kind = 5
  · subst h5; exact rm_fn kids n s t u ln co hs w
  by_cases h6 : kind = 6
  · subst h6; exact rm_rec kids n s t u ln co hs w
  by_cases h8 : kind = 8
  · subst h8; exact rm_let kids n s t u ln co hs w
  by_cases h29 : kind = 29
  · subst h29; exact rm_as kids n s t u ln co hs w
  by_cases h30 : kind = 30
  · subst h30; exact rm_cast kids n s t u ln co hs w
  by_cases h21 : kind = 21
  · subst h21; exact rm_list kids n s t u ln co hs w
  exact rm_other kind h1 h2 h3 h4 h5 h6 h8 h29 h30 h21 kids n s t u ln co hs w

end Go.Proofs.YthihnkgjkmaplaaGreatDoor
