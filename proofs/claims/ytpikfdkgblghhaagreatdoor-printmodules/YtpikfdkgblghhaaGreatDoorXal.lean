/- Which nodes may be: what the program's mayBe answers. -/
import Derived.Test.YtpikfdkgblghhaaGreatDoorXak
import Derived.Deep.Light
namespace Go.Proofs.YtpikfdkgblghhaaGreatDoor
open Go.RowKit
set_option maxRecDepth 100000

namespace Tr
def nB (x : Nd) : Bool := if x.kind == 1 then decide (0 ≤ x.n) else if x.kind == 3 then decide (0 ≤ x.n) && decide (x.n ≤ 1) else x.n == 0
def sB (x : Nd) : Bool :=
  if x.kind == 2 then (Tx.quoted (nm x)).isSome
  else if x.kind == 4 || x.kind == 5 || x.kind == 8 then nameB (nm x)
  else if x.kind == 6 then nameB (cut32 (nm x)).1 && nameB (cut32 (nm x)).2.1
  else (nm x).isEmpty
def tB (x : Nd) : Bool := if x.kind == 5 || x.kind == 6 || x.kind == 8 then noteB x.t.data.toList else if x.kind == 29 then typB x.t.data.toList else x.t.data.toList.isEmpty
def uB (x : Nd) : Bool := if x.kind == 5 || x.kind == 6 then noteB x.u.data.toList else x.u.data.toList.isEmpty
/-- May a node stand in a source's tree? -/
def mayB (x : Nd) : Bool := fitB x && nB x && sB x && tB x && uB x
end Tr

theorem bcell {W w1 : World} (hb : Below W.heap.size W w1) : (∀ b o, b < W.heap.size → w1.cell? ⟨b, o, none⟩ = W.cell? ⟨b, o, none⟩) ∧ (∀ b o, b < W.heap.size → w1.frozen? ⟨b, o, none⟩ = W.frozen? ⟨b, o, none⟩) :=
  ⟨fun b o h => hb.cell (p := ⟨b, o, none⟩) h, fun b o h => hb.frozen (p := ⟨b, o, none⟩) h⟩
theorem fit_node (kind kids n : Int) (s t u : ByteArray) (ln co : Int) (w : World) :
    Calls Tryz.prog 98 #[.agg #[.int .i8 kind, .int .i64 kids, .int .i64 n, .string s, .string t, .string u, .int .i64 ln, .int .i64 co]] w fun e w' => e = .returned (.bool (Tr.fitB ⟨kind, kids, n, s, t, u, ln, co⟩)) ∧ Below w.heap.size w w' := kidsFit_any ⟨kind, kids, n, s, t, u, ln, co⟩ w

theorem bt {a b c : World} (h : Below a.heap.size a b) (k : Below b.heap.size b c) : Below a.heap.size a c := h.trans (k.mono h.size)
theorem balloc {a b : World} (h : Below a.heap.size a b) (o : Obj) : Below a.heap.size a (b.alloc o) := h.alloc h.size o
theorem bset {a b : World} (h : Below a.heap.size a b) {o : Nat} {v : Value} : Below a.heap.size a (b.setCell ⟨a.heap.size, o, none⟩ v) := h.setCell (Nat.le_refl _) v

set_option maxHeartbeats 4000000 in
theorem be_var (kids n : Int) (s t u : ByteArray) (ln co : Int) (hs : s.size ≤ maxLen) (w : World) :
    Calls Tryz.prog 52 #[.agg #[.int .i8 4, .int .i64 kids, .int .i64 n, .string s, .string t, .string u, .int .i64 ln, .int .i64 co]] w fun e w' => e = .returned (.bool (Tr.mayB ⟨4, kids, n, s, t, u, ln, co⟩)) ∧ Below w.heap.size w w' := by
  have hk := fit_node 4 kids n s t u ln co
  have hn := isName_any s hs
  have HM : Aside (Tr.mayB ⟨4, kids, n, s, t, u, ln, co⟩ = (Tr.fitB ⟨4, kids, n, s, t, u, ln, co⟩ && n == 0 && nameB s.data.toList && t.toList.isEmpty && u.toList.isEmpty)) := by show _ = _; simp only [str_empty]; rfl
  generalize Tr.fitB ⟨4, kids, n, s, t, u, ln, co⟩ = f at *
  generalize nameB s.data.toList = f2 at *
  go_enter Tryz.func52, Tryz.ntmps52
  go_wp2_with (first | (go_at_call 98; refine (hk _).mono ?_; rintro e w1 ⟨rfl, hB1⟩; obtain ⟨hc1, hf1⟩ := bcell hB1; have hz1 : w.heap.size < w1.heap.size := by have := hB1.size; (try simp at this); omega) | (go_at_call 102; refine (hn _).mono ?_; rintro e w2 ⟨rfl, hB2⟩; obtain ⟨hc2, hf2⟩ := bcell hB2; have hz2 : w.heap.size < w2.heap.size := by have := hB2.size; (try simp at this); omega))
  all_goals
    go_ret
    rw [HM.out]
    go_light
    refine ⟨ret_bool ?_, ?_⟩
    · clear HM
      first
        | (simp [*]; done)
        | (simp [*]; intros; omega)
    · repeat (first | exact Below.refl _ _ | refine bset ?_ | refine balloc ?_ _ | refine bt ?_ (by assumption))

set_option maxHeartbeats 4000000 in
theorem be_let (kids n : Int) (s t u : ByteArray) (ln co : Int) (hs : s.size ≤ maxLen) (w : World) :
    Calls Tryz.prog 52 #[.agg #[.int .i8 8, .int .i64 kids, .int .i64 n, .string s, .string t, .string u, .int .i64 ln, .int .i64 co]] w fun e w' => e = .returned (.bool (Tr.mayB ⟨8, kids, n, s, t, u, ln, co⟩)) ∧ Below w.heap.size w w' := by
  have hk := fit_node 8 kids n s t u ln co
  have hn := isName_any s hs
  have ht := isAnn_any t
  have HM : Aside (Tr.mayB ⟨8, kids, n, s, t, u, ln, co⟩ = (Tr.fitB ⟨8, kids, n, s, t, u, ln, co⟩ && n == 0 && nameB s.data.toList && noteB t.data.toList && u.toList.isEmpty)) := by show _ = _; simp only [str_empty]; rfl
  generalize Tr.fitB ⟨8, kids, n, s, t, u, ln, co⟩ = f at *
  generalize nameB s.data.toList = f2 at *
  generalize noteB t.data.toList = f3 at *
  go_enter Tryz.func52, Tryz.ntmps52
  go_wp2_with (first | (go_at_call 98; refine (hk _).mono ?_; rintro e w1 ⟨rfl, hB1⟩; obtain ⟨hc1, hf1⟩ := bcell hB1; have hz1 : w.heap.size < w1.heap.size := by have := hB1.size; (try simp at this); omega) | (go_at_call 102; refine (hn _).mono ?_; rintro e w2 ⟨rfl, hB2⟩; obtain ⟨hc2, hf2⟩ := bcell hB2; have hz2 : w.heap.size < w2.heap.size := by have := hB2.size; (try simp at this); omega) | (go_at_call 103; refine (ht _).mono ?_; rintro e w' ⟨rfl, hw'⟩; replace hw' := hw'.symm; subst hw'))
  all_goals
    go_ret
    rw [HM.out]
    go_light
    refine ⟨ret_bool ?_, ?_⟩
    · clear HM
      first
        | (simp [*]; done)
        | (simp [*]; intros; omega)
    · repeat (first | exact Below.refl _ _ | refine bset ?_ | refine balloc ?_ _ | refine bt ?_ (by assumption))

set_option maxHeartbeats 4000000 in
theorem be_as (kids n : Int) (s t u : ByteArray) (ln co : Int) (_ : s.size ≤ maxLen) (w : World) :
    Calls Tryz.prog 52 #[.agg #[.int .i8 29, .int .i64 kids, .int .i64 n, .string s, .string t, .string u, .int .i64 ln, .int .i64 co]] w fun e w' => e = .returned (.bool (Tr.mayB ⟨29, kids, n, s, t, u, ln, co⟩)) ∧ Below w.heap.size w w' := by
  have hk := fit_node 29 kids n s t u ln co
  have ht := isType_any t
  have HM : Aside (Tr.mayB ⟨29, kids, n, s, t, u, ln, co⟩ = (Tr.fitB ⟨29, kids, n, s, t, u, ln, co⟩ && n == 0 && s.toList.isEmpty && typB t.data.toList && u.toList.isEmpty)) := by show _ = _; simp only [str_empty]; rfl
  generalize Tr.fitB ⟨29, kids, n, s, t, u, ln, co⟩ = f at *
  generalize typB t.data.toList = f3 at *
  go_enter Tryz.func52, Tryz.ntmps52
  go_wp2_with (first | (go_at_call 98; refine (hk _).mono ?_; rintro e w1 ⟨rfl, hB1⟩; obtain ⟨hc1, hf1⟩ := bcell hB1; have hz1 : w.heap.size < w1.heap.size := by have := hB1.size; (try simp at this); omega) | (go_at_call 100; refine (ht _).mono ?_; rintro e w' ⟨rfl, hw'⟩; replace hw' := hw'.symm; subst hw'))
  all_goals
    go_ret
    rw [HM.out]
    go_light
    refine ⟨ret_bool ?_, ?_⟩
    · clear HM
      first
        | (simp [*]; done)
        | (simp [*]; intros; omega)
    · repeat (first | exact Below.refl _ _ | refine bset ?_ | refine balloc ?_ _ | refine bt ?_ (by assumption))

set_option maxHeartbeats 4000000 in
theorem be_num (kids n : Int) (s t u : ByteArray) (ln co : Int) (_ : s.size ≤ maxLen) (w : World) :
    Calls Tryz.prog 52 #[.agg #[.int .i8 1, .int .i64 kids, .int .i64 n, .string s, .string t, .string u, .int .i64 ln, .int .i64 co]] w fun e w' => e = .returned (.bool (Tr.mayB ⟨1, kids, n, s, t, u, ln, co⟩)) ∧ Below w.heap.size w w' := by
  have hk := fit_node 1 kids n s t u ln co
  have HM : Aside (Tr.mayB ⟨1, kids, n, s, t, u, ln, co⟩ = (Tr.fitB ⟨1, kids, n, s, t, u, ln, co⟩ && decide (0 ≤ n) && s.toList.isEmpty && t.toList.isEmpty && u.toList.isEmpty)) := by show _ = _; simp only [str_empty]; rfl
  generalize Tr.fitB ⟨1, kids, n, s, t, u, ln, co⟩ = f at *
  go_enter Tryz.func52, Tryz.ntmps52
  go_wp2_with (first | (go_at_call 98; refine (hk _).mono ?_; rintro e w1 ⟨rfl, hB1⟩; obtain ⟨hc1, hf1⟩ := bcell hB1; have hz1 : w.heap.size < w1.heap.size := by have := hB1.size; (try simp at this); omega))
  all_goals
    go_ret
    rw [HM.out]
    go_light
    refine ⟨ret_bool ?_, ?_⟩
    · clear HM
      first
        | (simp [*]; done)
        | (simp [*]; intros; omega)
    · repeat (first | exact Below.refl _ _ | refine bset ?_ | refine balloc ?_ _ | refine bt ?_ (by assumption))

set_option maxHeartbeats 4000000 in
theorem be_truth (kids n : Int) (s t u : ByteArray) (ln co : Int) (_ : s.size ≤ maxLen) (w : World) :
    Calls Tryz.prog 52 #[.agg #[.int .i8 3, .int .i64 kids, .int .i64 n, .string s, .string t, .string u, .int .i64 ln, .int .i64 co]] w fun e w' => e = .returned (.bool (Tr.mayB ⟨3, kids, n, s, t, u, ln, co⟩)) ∧ Below w.heap.size w w' := by
  have hk := fit_node 3 kids n s t u ln co
  have HM : Aside (Tr.mayB ⟨3, kids, n, s, t, u, ln, co⟩ = (Tr.fitB ⟨3, kids, n, s, t, u, ln, co⟩ && (decide (0 ≤ n) && decide (n ≤ 1)) && s.toList.isEmpty && t.toList.isEmpty && u.toList.isEmpty)) := by show _ = _; simp only [str_empty]; rfl
  generalize Tr.fitB ⟨3, kids, n, s, t, u, ln, co⟩ = f at *
  go_enter Tryz.func52, Tryz.ntmps52
  go_wp2_with (first | (go_at_call 98; refine (hk _).mono ?_; rintro e w1 ⟨rfl, hB1⟩; obtain ⟨hc1, hf1⟩ := bcell hB1; have hz1 : w.heap.size < w1.heap.size := by have := hB1.size; (try simp at this); omega))
  all_goals
    go_ret
    rw [HM.out]
    go_light
    refine ⟨ret_bool ?_, ?_⟩
    · clear HM
      first
        | (simp [*]; done)
        | (simp [*]; intros; omega)
    · repeat (first | exact Below.refl _ _ | refine bset ?_ | refine balloc ?_ _ | refine bt ?_ (by assumption))

end Go.Proofs.YtpikfdkgblghhaaGreatDoor
