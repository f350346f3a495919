/- Which nodes may be: what the document's May answers. -/
import Derived.Test.YtpikfdkgblghhaaGreatDoorXbi
namespace Go.Proofs.YtpikfdkgblghhaaGreatDoor
open Go.RowKit
set_option maxRecDepth 100000

set_option maxHeartbeats 4000000 in
theorem rm_fn (kids n : Int) (s t u : ByteArray) (ln co : Int) (hs : s.size ≤ maxLen) (w : World) :
    Calls Tryz.prog 57 #[.agg #[.int .i8 5, .int .i64 kids, .int .i64 n, .string s, .string t, .string u, .int .i64 ln, .int .i64 co]] w fun e w' => e = .returned (.bool (Tr.mayB ⟨5, kids, n, s, t, u, ln, co⟩)) ∧ Below w.heap.size w w' := by
  have ha : ∀ w, Calls Tryz.prog 106 #[.int .i8 5] w fun e w' => e = .returned (.tuple #[.int .i64 1, .bool true]) ∧ w' = w := refArity_any 5
  have HM : Aside (Tr.mayB ⟨5, kids, n, s, t, u, ln, co⟩ = (kids == 1 && n == 0 && nameB s.data.toList && noteB t.data.toList && noteB u.data.toList)) := by show _ = _; (try simp only [str_empty]); rfl
  have hn := refIsName_any s hs
  generalize nameB s.data.toList = f2 at *
  have ht := isNote_any t
  have hu := isNote_any u
  generalize noteB t.data.toList = f3 at *
  generalize noteB u.data.toList = f4 at *
  by_cases hk : kids = 1
  · subst hk
    go_enter Tryz.func57, Tryz.ntmps57
    go_wp2_with (first | (go_at_call 106; refine (ha _).mono ?_; rintro e w' ⟨rfl, hw'⟩; replace hw' := hw'.symm; subst hw') | (go_at_call 70; refine (hn _).mono ?_; rintro e w2 ⟨rfl, hB2⟩; have hc2 := fun o => (bcell hB2).1 w.heap.size o (by first | (simp; done) | (simp; omega) | omega); have hf2 := fun o => (bcell hB2).2 w.heap.size o (by first | (simp; done) | (simp; omega) | omega); have hd2 := fun o => (bcell hB2).1 (w.heap.size + 1) o (by first | (simp; done) | (simp; omega) | omega); have hg2 := fun o => (bcell hB2).2 (w.heap.size + 1) o (by first | (simp; done) | (simp; omega) | omega); have hz2 : w.heap.size + 1 < w2.heap.size := by have := hB2.size; (try simp at this); omega) | (go_at_call_of 71 t; refine (ht _).mono ?_; rintro e w' ⟨rfl, hw'⟩; replace hw' := hw'.symm; subst hw') | (go_at_call_of 71 u; refine (hu _).mono ?_; rintro e w' ⟨rfl, hw'⟩; replace hw' := hw'.symm; subst hw'))
    all_goals
      go_ret
      rw [HM.out]
      go_light
      refine ⟨ret_bool ?_, ?_⟩
      · clear HM
        first
          | (simp [*]; done)
          | (simp [*]; intros; omega)
          | grind
      · repeat (first | exact Below.refl _ _ | refine bset ?_ | refine bset2 ?_ | refine balloc ?_ _ | refine bt ?_ (by assumption))
  · have hk' : (kids != 1) = true := by simpa using hk
    have hk2 : (kids == 1) = false := by simpa using hk
    go_enter Tryz.func57, Tryz.ntmps57
    go_wp2_with ((go_at_call 106; refine (ha _).mono ?_; rintro e w' ⟨rfl, hw'⟩; replace hw' := hw'.symm; subst hw'))
    all_goals
      go_ret
      rw [HM.out]
      go_light
      refine ⟨ret_bool ?_, ?_⟩
      · clear HM
        first
          | (simp [*]; done)
          | (simp [*]; intros; omega)
          | grind
      · repeat (first | exact Below.refl _ _ | refine bset ?_ | refine bset2 ?_ | refine balloc ?_ _ | refine bt ?_ (by assumption))

set_option maxHeartbeats 4000000 in
theorem rm_rec (kids n : Int) (s t u : ByteArray) (ln co : Int) (hs : s.size ≤ maxLen) (w : World) :
    Calls Tryz.prog 57 #[.agg #[.int .i8 6, .int .i64 kids, .int .i64 n, .string s, .string t, .string u, .int .i64 ln, .int .i64 co]] w fun e w' => e = .returned (.bool (Tr.mayB ⟨6, kids, n, s, t, u, ln, co⟩)) ∧ Below w.heap.size w w' := by
  have ha : ∀ w, Calls Tryz.prog 106 #[.int .i8 6] w fun e w' => e = .returned (.tuple #[.int .i64 1, .bool true]) ∧ w' = w := refArity_any 6
  have HM : Aside (Tr.mayB ⟨6, kids, n, s, t, u, ln, co⟩ = (kids == 1 && n == 0 && (two s.data.toList).2.2 && noteB t.data.toList && noteB u.data.toList)) := by show _ = _; (try simp only [str_empty]); simp only [two_is]; rfl
  have hn := twoNames_any s hs
  generalize (two s.data.toList).2.2 = f2 at *
  generalize S (two s.data.toList).1 = sx at *
  generalize S (two s.data.toList).2.1 = sy at *
  have ht := isNote_any t
  have hu := isNote_any u
  generalize noteB t.data.toList = f3 at *
  generalize noteB u.data.toList = f4 at *
  by_cases hk : kids = 1
  · subst hk
    go_enter Tryz.func57, Tryz.ntmps57
    go_wp2_with (first | (go_at_call 106; refine (ha _).mono ?_; rintro e w' ⟨rfl, hw'⟩; replace hw' := hw'.symm; subst hw') | (go_at_call 108; refine (hn _).mono ?_; rintro e w2 ⟨rfl, hB2⟩; have hc2 := fun o => (bcell hB2).1 w.heap.size o (by first | (simp; done) | (simp; omega) | omega); have hf2 := fun o => (bcell hB2).2 w.heap.size o (by first | (simp; done) | (simp; omega) | omega); have hd2 := fun o => (bcell hB2).1 (w.heap.size + 1) o (by first | (simp; done) | (simp; omega) | omega); have hg2 := fun o => (bcell hB2).2 (w.heap.size + 1) o (by first | (simp; done) | (simp; omega) | omega); have hz2 : w.heap.size + 1 < w2.heap.size := by have := hB2.size; (try simp at this); omega) | (go_at_call_of 71 t; refine (ht _).mono ?_; rintro e w' ⟨rfl, hw'⟩; replace hw' := hw'.symm; subst hw') | (go_at_call_of 71 u; refine (hu _).mono ?_; rintro e w' ⟨rfl, hw'⟩; replace hw' := hw'.symm; subst hw'))
    all_goals
      go_ret
      rw [HM.out]
      go_light
      refine ⟨ret_bool ?_, ?_⟩
      · clear HM
        first
          | (simp [*]; done)
          | (simp [*]; intros; omega)
          | grind
      · repeat (first | exact Below.refl _ _ | refine bset ?_ | refine bset2 ?_ | refine balloc ?_ _ | refine bt ?_ (by assumption))
  · have hk' : (kids != 1) = true := by simpa using hk
    have hk2 : (kids == 1) = false := by simpa using hk
    go_enter Tryz.func57, Tryz.ntmps57
    go_wp2_with ((go_at_call 106; refine (ha _).mono ?_; rintro e w' ⟨rfl, hw'⟩; replace hw' := hw'.symm; subst hw'))
    all_goals
      go_ret
      rw [HM.out]
      go_light
      refine ⟨ret_bool ?_, ?_⟩
      · clear HM
        first
          | (simp [*]; done)
          | (simp [*]; intros; omega)
          | grind
      · repeat (first | exact Below.refl _ _ | refine bset ?_ | refine bset2 ?_ | refine balloc ?_ _ | refine bt ?_ (by assumption))

set_option maxHeartbeats 4000000 in
theorem rm_str (kids n : Int) (s t u : ByteArray) (ln co : Int) (hs : s.size ≤ maxLen) (w : World) :
    Calls Tryz.prog 57 #[.agg #[.int .i8 2, .int .i64 kids, .int .i64 n, .string s, .string t, .string u, .int .i64 ln, .int .i64 co]] w fun e w' => e = .returned (.bool (Tr.mayB ⟨2, kids, n, s, t, u, ln, co⟩)) ∧ Below w.heap.size w w' := by
  have ha : ∀ w, Calls Tryz.prog 106 #[.int .i8 2] w fun e w' => e = .returned (.tuple #[.int .i64 0, .bool true]) ∧ w' = w := refArity_any 2
  have HM : Aside (Tr.mayB ⟨2, kids, n, s, t, u, ln, co⟩ = (kids == 0 && n == 0 && (Tx.quoted s.data.toList).isSome && t.toList.isEmpty && u.toList.isEmpty)) := by show _ = _; (try simp only [str_empty]); rfl
  have hq := rquote_node s hs
  generalize (Tx.quoted s.data.toList).isSome = f2 at *
  by_cases hk : kids = 0
  · subst hk
    go_enter Tryz.func57, Tryz.ntmps57
    go_wp2_with (first | (go_at_call 106; refine (ha _).mono ?_; rintro e w' ⟨rfl, hw'⟩; replace hw' := hw'.symm; subst hw') | (go_at_call 107; refine (hq _).mono ?_; rintro e w' ⟨q, er, rfl, her, hw'⟩; replace hw' := hw'.symm; subst hw'))
    all_goals
      go_ret
      rw [HM.out]
      go_light
      refine ⟨ret_bool ?_, ?_⟩
      · clear HM
        first
          | (simp [*]; done)
          | (simp [*]; intros; omega)
          | grind
      · repeat (first | exact Below.refl _ _ | refine bset ?_ | refine bset2 ?_ | refine balloc ?_ _ | refine bt ?_ (by assumption))
  · have hk' : (kids != 0) = true := by simpa using hk
    have hk2 : (kids == 0) = false := by simpa using hk
    go_enter Tryz.func57, Tryz.ntmps57
    go_wp2_with ((go_at_call 106; refine (ha _).mono ?_; rintro e w' ⟨rfl, hw'⟩; replace hw' := hw'.symm; subst hw'))
    all_goals
      go_ret
      rw [HM.out]
      go_light
      refine ⟨ret_bool ?_, ?_⟩
      · clear HM
        first
          | (simp [*]; done)
          | (simp [*]; intros; omega)
          | grind
      · repeat (first | exact Below.refl _ _ | refine bset ?_ | refine bset2 ?_ | refine balloc ?_ _ | refine bt ?_ (by assumption))

end Go.Proofs.YtpikfdkgblghhaaGreatDoor
