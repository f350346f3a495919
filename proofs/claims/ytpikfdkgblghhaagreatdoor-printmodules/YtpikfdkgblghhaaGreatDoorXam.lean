/- Which nodes may be: what the program's mayBe answers, further kinds, and all together. -/
import Derived.Test.YtpikfdkgblghhaaGreatDoorXal
namespace Go.Proofs.YtpikfdkgblghhaaGreatDoor
open Go.RowKit
set_option maxRecDepth 100000

theorem Tr.cut32_len : ∀ l : List UInt8, (Tr.cut32 l).1.length ≤ l.length ∧ (Tr.cut32 l).2.1.length ≤ l.length
  | [] => by simp [Tr.cut32]
  | c :: r => by
    have := Tr.cut32_len r
    rw [Tr.cut32]
    split
    · simp
    · simp; omega
theorem quote_node (s : ByteArray) (hs : s.size ≤ maxLen) (w : World) :
    Calls Tryz.prog 99 #[.string s] w fun e w' => ∃ (q : ByteArray) (er : Int), e = .returned (.tuple #[.string q, .int .i64 er]) ∧ (er == 0) = (Tx.quoted s.data.toList).isSome ∧ Below w.heap.size w w' := by
  refine (quote_any s hs w).mono ?_
  rintro e w' ⟨hq, hB⟩
  cases h : Tx.quoted s.data.toList with
  | none => rw [h] at hq; exact ⟨_, _, hq, rfl, hB⟩
  | some q => rw [h] at hq; exact ⟨_, _, hq, rfl, hB⟩

set_option maxHeartbeats 4000000 in
theorem be_fn (kids n : Int) (s t u : ByteArray) (ln co : Int) (hs : s.size ≤ maxLen) (w : World) :
    Calls Tryz.prog 52 #[.agg #[.int .i8 5, .int .i64 kids, .int .i64 n, .string s, .string t, .string u, .int .i64 ln, .int .i64 co]] w fun e w' => e = .returned (.bool (Tr.mayB ⟨5, kids, n, s, t, u, ln, co⟩)) ∧ Below w.heap.size w w' := by
  have hk := fit_node 5 kids n s t u ln co
  have hn := isName_any s hs
  have ht := isAnn_any t
  have hu := isAnn_any u
  have HM : Aside (Tr.mayB ⟨5, kids, n, s, t, u, ln, co⟩ = (Tr.fitB ⟨5, kids, n, s, t, u, ln, co⟩ && n == 0 && nameB s.data.toList && noteB t.data.toList && noteB u.data.toList)) := rfl
  generalize Tr.fitB ⟨5, kids, n, s, t, u, ln, co⟩ = f at *
  generalize nameB s.data.toList = f2 at *
  generalize noteB t.data.toList = f3 at *
  generalize noteB u.data.toList = f4 at *
  go_enter Tryz.func52, Tryz.ntmps52
  go_wp2_with (first | (go_at_call 98; refine (hk _).mono ?_; rintro e w1 ⟨rfl, hB1⟩; obtain ⟨hc1, hf1⟩ := bcell hB1; have hz1 : w.heap.size < w1.heap.size := by have := hB1.size; (try simp at this); omega) | (go_at_call 102; refine (hn _).mono ?_; rintro e w2 ⟨rfl, hB2⟩; obtain ⟨hc2, hf2⟩ := bcell hB2; have hz2 : w.heap.size < w2.heap.size := by have := hB2.size; (try simp at this); omega) | (go_at_call_of 103 t; refine (ht _).mono ?_; rintro e w' ⟨rfl, hw'⟩; replace hw' := hw'.symm; subst hw') | (go_at_call_of 103 u; refine (hu _).mono ?_; rintro e w' ⟨rfl, hw'⟩; replace hw' := hw'.symm; subst hw'))
  all_goals
    go_ret
    rw [HM.out]
    go_light
    refine ⟨ret_bool ?_, ?_⟩
    · clear HM
      first
        | (simp [*]; done)
        | (simp [*]; intros; omega)
    · repeat (first | exact Below.refl _ _ | refine bset ?_ | refine balloc ?_ _ | refine bt ?_ (by assumption))

set_option maxHeartbeats 4000000 in
theorem be_rec (kids n : Int) (s t u : ByteArray) (ln co : Int) (hs : s.size ≤ maxLen) (w : World) :
    Calls Tryz.prog 52 #[.agg #[.int .i8 6, .int .i64 kids, .int .i64 n, .string s, .string t, .string u, .int .i64 ln, .int .i64 co]] w fun e w' => e = .returned (.bool (Tr.mayB ⟨6, kids, n, s, t, u, ln, co⟩)) ∧ Below w.heap.size w w' := by
  have hk := fit_node 6 kids n s t u ln co
  have hcut := cut_any s hs
  have hl : (Tr.cut32 s.data.toList).1.length ≤ s.data.toList.length ∧ (Tr.cut32 s.data.toList).2.1.length ≤ s.data.toList.length := Tr.cut32_len _
  have hsl := str_len s
  have hn1 := isName_any (S (Tr.cut32 s.data.toList).1) (by rw [S_size]; omega)
  have hn2 := isName_any (S (Tr.cut32 s.data.toList).2.1) (by rw [S_size]; omega)
  rw [S_list] at hn1 hn2
  have ht := isAnn_any t
  have hu := isAnn_any u
  have HM : Aside (Tr.mayB ⟨6, kids, n, s, t, u, ln, co⟩ = (Tr.fitB ⟨6, kids, n, s, t, u, ln, co⟩ && n == 0 && (nameB (Tr.cut32 s.data.toList).1 && nameB (Tr.cut32 s.data.toList).2.1) && noteB t.data.toList && noteB u.data.toList)) := rfl
  generalize Tr.fitB ⟨6, kids, n, s, t, u, ln, co⟩ = f at *
  generalize nameB (Tr.cut32 s.data.toList).1 = f1 at *
  generalize nameB (Tr.cut32 s.data.toList).2.1 = f2 at *
  generalize S (Tr.cut32 s.data.toList).1 = x at *
  generalize S (Tr.cut32 s.data.toList).2.1 = y at *
  generalize (Tr.cut32 s.data.toList).2.2 = fo at *
  generalize noteB t.data.toList = f3 at *
  generalize noteB u.data.toList = f4 at *
  clear hl hsl
  go_enter Tryz.func52, Tryz.ntmps52
  go_wp2_with (first | (go_at_call 98; refine (hk _).mono ?_; rintro e w1 ⟨rfl, hB1⟩; have hc1 := fun o => (bcell hB1).1 w.heap.size o (by first | (simp; done) | (simp; omega) | omega); have hf1 := fun o => (bcell hB1).2 w.heap.size o (by first | (simp; done) | (simp; omega) | omega); have hz1 : w.heap.size < w1.heap.size := by have := hB1.size; (try simp at this); omega) | (go_at_call 101; refine (hcut _).mono ?_; rintro e w2 ⟨rfl, hB2⟩; have hc2 := fun o => (bcell hB2).1 w.heap.size o (by first | (simp; done) | (simp; omega) | omega); have hf2 := fun o => (bcell hB2).2 w.heap.size o (by first | (simp; done) | (simp; omega) | omega); have hz2 : w.heap.size < w2.heap.size := by have := hB2.size; (try simp at this); omega) | (go_at_call_of 102 x; refine (hn1 _).mono ?_; rintro e w3 ⟨rfl, hB3⟩; have hc3 := fun o => (bcell hB3).1 w.heap.size o (by first | (simp; done) | (simp; omega) | omega); have hf3 := fun o => (bcell hB3).2 w.heap.size o (by first | (simp; done) | (simp; omega) | omega); have hz3 : w.heap.size < w3.heap.size := by have := hB3.size; (try simp at this); omega) | (go_at_call_of 102 y; refine (hn2 _).mono ?_; rintro e w4 ⟨rfl, hB4⟩; have hc4 := fun o => (bcell hB4).1 w.heap.size o (by first | (simp; done) | (simp; omega) | omega); have hf4 := fun o => (bcell hB4).2 w.heap.size o (by first | (simp; done) | (simp; omega) | omega); have hz4 : w.heap.size < w4.heap.size := by have := hB4.size; (try simp at this); omega) | (go_at_call_of 103 t; refine (ht _).mono ?_; rintro e w' ⟨rfl, hw'⟩; replace hw' := hw'.symm; subst hw') | (go_at_call_of 103 u; refine (hu _).mono ?_; rintro e w' ⟨rfl, hw'⟩; replace hw' := hw'.symm; subst hw'))
  all_goals
    go_ret
    rw [HM.out]
    go_light
    refine ⟨ret_bool ?_, ?_⟩
    · clear HM
      first
        | (simp [*]; done)
        | (simp [*]; intros; omega)
    · repeat (first | exact Below.refl _ _ | refine bset ?_ | refine balloc ?_ _ | refine bt ?_ (by assumption))

set_option maxHeartbeats 4000000 in
theorem be_str (kids n : Int) (s t u : ByteArray) (ln co : Int) (hs : s.size ≤ maxLen) (w : World) :
    Calls Tryz.prog 52 #[.agg #[.int .i8 2, .int .i64 kids, .int .i64 n, .string s, .string t, .string u, .int .i64 ln, .int .i64 co]] w fun e w' => e = .returned (.bool (Tr.mayB ⟨2, kids, n, s, t, u, ln, co⟩)) ∧ Below w.heap.size w w' := by
  have hk := fit_node 2 kids n s t u ln co
  have hq := quote_node s hs
  have HM : Aside (Tr.mayB ⟨2, kids, n, s, t, u, ln, co⟩ = (Tr.fitB ⟨2, kids, n, s, t, u, ln, co⟩ && n == 0 && (Tx.quoted s.data.toList).isSome && t.toList.isEmpty && u.toList.isEmpty)) := by show _ = _; simp only [str_empty]; rfl
  generalize Tr.fitB ⟨2, kids, n, s, t, u, ln, co⟩ = f at *
  generalize (Tx.quoted s.data.toList).isSome = f2 at *
  go_enter Tryz.func52, Tryz.ntmps52
  go_wp2_with (first | (go_at_call 98; refine (hk _).mono ?_; rintro e w1 ⟨rfl, hB1⟩; obtain ⟨hc1, hf1⟩ := bcell hB1; have hz1 : w.heap.size < w1.heap.size := by have := hB1.size; (try simp at this); omega) | (go_at_call 99; refine (hq _).mono ?_; rintro e w2 ⟨q, er, rfl, her, hB2⟩; obtain ⟨hc2, hf2⟩ := bcell hB2; have hz2 : w.heap.size < w2.heap.size := by have := hB2.size; (try simp at this); omega))
  all_goals
    go_ret
    rw [HM.out]
    go_light
    refine ⟨ret_bool ?_, ?_⟩
    · clear HM
      first
        | (simp [*]; done)
        | (simp [*]; intros; omega)
    · repeat (first | exact Below.refl _ _ | refine bset ?_ | refine balloc ?_ _ | refine bt ?_ (by assumption))

set_option maxHeartbeats 4000000 in
theorem be_other (kind : Int) (h1 : kind ≠ 1) (h2 : kind ≠ 2) (h3 : kind ≠ 3) (h4 : kind ≠ 4) (h5 : kind ≠ 5) (h6 : kind ≠ 6) (h8 : kind ≠ 8) (h29 : kind ≠ 29) (kids n : Int) (s t u : ByteArray) (ln co : Int) (_ : s.size ≤ maxLen) (w : World) :
    Calls Tryz.prog 52 #[.agg #[.int .i8 kind, .int .i64 kids, .int .i64 n, .string s, .string t, .string u, .int .i64 ln, .int .i64 co]] w fun e w' => e = .returned (.bool (Tr.mayB ⟨kind, kids, n, s, t, u, ln, co⟩)) ∧ Below w.heap.size w w' := by
  have hk := fit_node kind kids n s t u ln co
  have e3 : (kind == 3) = false := by simpa using h3
  have e1 : (kind == 1) = false := by simpa using h1
  have e2 : (kind == 2) = false := by simpa using h2
  have e29 : (kind == 29) = false := by simpa using h29
  have e6 : (kind == 6) = false := by simpa using h6
  have e5 : (kind == 5) = false := by simpa using h5
  have e8 : (kind == 8) = false := by simpa using h8
  have e4 : (kind == 4) = false := by simpa using h4
  have HM : Aside (Tr.mayB ⟨kind, kids, n, s, t, u, ln, co⟩ = (Tr.fitB ⟨kind, kids, n, s, t, u, ln, co⟩ && n == 0 && s.toList.isEmpty && t.toList.isEmpty && u.toList.isEmpty)) := by show _ = _; simp only [str_empty]; simp [Tr.mayB, Tr.nB, Tr.sB, Tr.tB, Tr.uB, Tr.nm, h1, h2, h3, h4, h5, h6, h8, h29]
  generalize Tr.fitB ⟨kind, kids, n, s, t, u, ln, co⟩ = f at *
  clear h1 h2 h3 h4 h5 h6 h8 h29
  go_enter Tryz.func52, Tryz.ntmps52
  go_wp2_with (first | (go_at_call 98; refine (hk _).mono ?_; rintro e w1 ⟨rfl, hB1⟩; obtain ⟨hc1, hf1⟩ := bcell hB1; have hz1 : w.heap.size < w1.heap.size := by have := hB1.size; (try simp at this); omega))
  all_goals
    go_ret
    rw [HM.out]
    go_light
    refine ⟨ret_bool ?_, ?_⟩
    · clear HM
      first
        | (simp [*]; done)
        | (simp [*]; intros; omega)
    · repeat (first | exact Below.refl _ _ | refine bset ?_ | refine balloc ?_ _ | refine bt ?_ (by assumption))

end Go.Proofs.YtpikfdkgblghhaaGreatDoor
