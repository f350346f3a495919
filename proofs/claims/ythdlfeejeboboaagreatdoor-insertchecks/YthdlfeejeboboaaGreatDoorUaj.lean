/- Which nodes may be: what the program's Arity, kidsFit and the document's Arity answer. What strings.Cut answers at one blank. Which nodes may be: what the program's mayBe answers. Which nodes may be: what the program's mayBe answers, further kinds, and all together. -/
import Derived.Test.YthdlfeejeboboaaGreatDoorUai
import Derived.Laws.StructEq
import Derived.Test.YthdlfeejeboboaaGreatDoorUac
import Derived.Lib.IndexLaws
import Derived.Deep.Light
namespace Go.Proofs.YthdlfeejeboboaaGreatDoor
open Go.RowKit
set_option maxRecDepth 100000

namespace Tr
def arK (k : Int) : Int :=
  if k == 1 || k == 2 || k == 3 || k == 4 then 0
  else if k == 5 || k == 6 || k == 29 || k == 30 || k == 16 || k == 17 || k == 19 || k == 20 || k == 22 || k == 23 || k == 24 || k == 26 || k == 27 then 1
  else if k == 8 || k == 7 || k == 10 || k == 11 || k == 12 || k == 13 || k == 14 || k == 15 || k == 18 || k == 25 || k == 28 then 2
  else if k == 9 then 3 else 0
def arF (k : Int) : Bool := decide (1 ≤ k) && decide (k ≤ 30) && !(k == 21)
def fitB (x : Nd) : Bool := if x.kind == 21 then decide (0 ≤ x.kids) else if x.kind == 30 then false else arF x.kind && x.kids == arK x.kind
def agg (x : Nd) : Value := .agg #[.int .i8 x.kind, .int .i64 x.kids, .int .i64 x.n, .string x.s, .string x.t, .string x.u, .int .i64 x.ln, .int .i64 x.co]
end Tr

theorem ret_ar {a b : Int} {p q : Bool} (h : a = b) (h' : p = q) : Ending.returned (.tuple #[.int .i64 a, .bool p]) = .returned (.tuple #[.int .i64 b, .bool q]) := by rw [h, h']

set_option maxHeartbeats 2000000 in
theorem arity_any (k : Int) (w : World) :
    Calls Tryz.prog 169 #[.int .i8 k] w fun e w' => e = .returned (.tuple #[.int .i64 (Tr.arK k), .bool (Tr.arF k)]) ∧ w' = w := by
  go_enter Tryz.func169, Tryz.ntmps169
  go_wp2
  all_goals
    go_ret2
    refine ⟨ret_ar ?_ ?_, rfl⟩
    · unfold Tr.arK; simp_all
    · unfold Tr.arF
      first
        | (simp_all; done)
        | (rw [eq_comm, Bool.eq_false_iff]; simp_all; omega)

set_option maxHeartbeats 1000000 in
theorem kidsFit_any (x : Tr.Nd) (w : World) :
    Calls Tryz.prog 135 #[Tr.agg x] w fun e w' => e = .returned (.bool (Tr.fitB x)) ∧ Below w.heap.size w w' := by
  obtain ⟨kind, kids, n, s, t, u, ln, co⟩ := x
  have hB : ∀ o : Obj, Below w.heap.size w (w.alloc o) := fun o => (Below.refl _ _).alloc (Nat.le_refl _) _
  unfold Tr.agg
  simp only
  by_cases h21 : kind = 21
  · subst h21
    go_enter Tryz.func135, Tryz.ntmps135
    go_wp2_with fail
    all_goals
      go_ret
      refine ⟨ret_bool ?_, hB _⟩
      simp_all [Tr.fitB]
  · by_cases h30 : kind = 30
    · subst h30
      go_enter Tryz.func135, Tryz.ntmps135
      go_wp2_with fail
      go_ret
      exact ⟨ret_bool rfl, hB _⟩
    · have e21 : (kind == 21) = false := by simpa using h21
      have e30 : (kind == 30) = false := by simpa using h30
      have HF : Aside (Tr.fitB ⟨kind, kids, n, s, t, u, ln, co⟩ = (Tr.arF kind && kids == Tr.arK kind)) := by show _ = _; simp [Tr.fitB, e21, e30]
      clear h21 h30
      go_enter Tryz.func135, Tryz.ntmps135
      go_wp2_with (go_at_call 169; refine (arity_any _ _).mono ?_; rintro e w' ⟨rfl, rfl⟩)
      all_goals
        go_ret
        rw [HF.out]
        refine ⟨ret_bool ?_, hB _⟩
        simp_all
end Go.Proofs.YthdlfeejeboboaaGreatDoor
namespace Go.Proofs.YthdlfeejeboboaaGreatDoor
open Go.RowKit
set_option maxRecDepth 100000

namespace Tr
theorem cut32_none : ∀ {l : List UInt8}, Lib.indexByte l 32 = -1 → cut32 l = (l, [], false)
  | [], _ => rfl
  | c :: r, h => by
    unfold Lib.indexByte at h
    by_cases hc : c = 32
    · subst hc; simp at h
    · have h' : Lib.indexByte r 32 = -1 := by
        have := Lib.indexByte_ge r 32
        rw [if_neg (by simpa using hc)] at h
        split at h
        · rename_i h1; simpa using h1
        · omega
      rw [cut32, if_neg hc, cut32_none h']
theorem cut32_some : ∀ {l : List UInt8} {o : Nat}, Lib.indexByte l 32 = o → o < l.length ∧ cut32 l = (l.take o, l.drop (o + 1), true)
  | [], o, h => by simp [Lib.indexByte] at h
  | c :: r, o, h => by
    unfold Lib.indexByte at h
    by_cases hc : c = 32
    · subst hc
      simp at h
      obtain rfl : o = 0 := by omega
      exact ⟨by simp, by simp [cut32]⟩
    · have := Lib.indexByte_ge r 32
      rw [if_neg (by simpa using hc)] at h
      split at h
      · omega
      · rename_i h1
        have h1' : Lib.indexByte r 32 ≠ -1 := by simpa using h1
        obtain ⟨o', rfl⟩ : ∃ o', o = o' + 1 := ⟨o - 1, by omega⟩
        obtain ⟨h2, h3⟩ := cut32_some (l := r) (o := o') (by omega)
        exact ⟨by simpa using h2, by rw [cut32, if_neg hc, h3]; simp⟩
end Tr

theorem below_drewN {b : Nat} {w w' : World} (h : Below b w w') (n : Nat) : Below b w (w'.drewN n) := ⟨h.os, h.tape, h.output, h.size, h.block⟩
theorem below_drew {b : Nat} {w w' : World} (h : Below b w w') : Below b w w'.drew := ⟨h.os, h.tape, h.output, h.size, h.block⟩
theorem ret_cut {a b c d : ByteArray} {p q : Bool} (h1 : a = b) (h2 : c = d) (h3 : p = q) : Ending.returned (.tuple #[.string a, .string c, .bool p]) = .returned (.tuple #[.string b, .string d, .bool q]) := by rw [h1, h2, h3]

set_option maxHeartbeats 1000000 in
theorem liteCut_any (s : ByteArray) (hs : s.size ≤ maxLen) (w : World) :
    Calls Tryz.prog 159 #[.string s, .string ⟨#[32]⟩] w fun e w' => e = .returned (.tuple #[.string (S (Tr.cut32 s.data.toList).1), .string (S (Tr.cut32 s.data.toList).2.1), .bool (Tr.cut32 s.data.toList).2.2]) ∧ Below w.heap.size w w' := by
  have hi := Tryz.stringslite_Index_one s 32
  have hml : s.size ≤ 9223372036854775807 := by unfold maxLen at hs; omega
  by_cases h : Lib.indexByte s.data.toList 32 = -1
  · have HC := Tr.cut32_none h
    have HC : Aside (Tr.cut32 s.data.toList = (s.data.toList, [], false)) := HC
    rw [h] at hi
    clear h
    go_enter Tryz.func159, Tryz.ntmps159
    go_wp2_with (go_at_call 179; refine (hi _).mono ?_; rintro e w' ⟨rfl, hw'⟩; replace hw' := hw'.symm; subst hw')
    exact bodyPost_ret (v := .tuple #[.string s, .string ⟨#[]⟩, .bool false]) (by simp [results, Tryz.results159, go_sem]) rfl ⟨by rw [HC.out]; rfl, Below.refl _ _⟩
  · obtain ⟨o, ho⟩ : ∃ o : Nat, Lib.indexByte s.data.toList 32 = o := ⟨(Lib.indexByte s.data.toList 32).toNat, by have := Lib.indexByte_ge s.data.toList 32; omega⟩
    obtain ⟨hlt, hc⟩ := Tr.cut32_some ho
    have HC : Aside (Tr.cut32 s.data.toList = (s.data.toList.take o, s.data.toList.drop (o + 1), true)) := hc
    rw [ho] at hi
    have hos : o + 1 ≤ s.size := by rw [← str_len]; exact hlt
    have HL := str_len s
    have H1 : Aside (s.extract 0 o = S (s.data.toList.take o)) := by show _ = _; have := S_cut s.data.toList 0 o; simpa [S] using this
    have H2 : Aside (s.extract (o + 1) s.size = S (s.data.toList.drop (o + 1))) := by
      show _ = _
      have := S_cut s.data.toList (o + 1) s.size
      rw [List.take_of_length_le (by simp)] at this
      simpa [S] using this
    clear h ho hlt hc HL
    have h0 : (0 : Int) ≤ (o : Int) := by omega
    have h1 : (o : Int) + 1 ≤ (s.size : Int) := by omega
    have h2 : (o : Int) ≤ (s.size : Int) := by omega
    go_enter Tryz.func159, Tryz.ntmps159
    go_wp2_with (go_at_call 179; refine (hi _).mono ?_; rintro e w' ⟨rfl, hw'⟩; replace hw' := hw'.symm; subst hw')
    go_quiet (fail)
    go_wp2_with fail
    go_ret3
    rw [HC.out]
    exact ⟨ret_cut H1.out H2.out rfl, below_drewN (Below.refl _ _) _⟩

set_option maxHeartbeats 1000000 in
theorem cut_any (s : ByteArray) (hs : s.size ≤ maxLen) (w : World) :
    Calls Tryz.prog 120 #[.string s, .string ⟨#[32]⟩] w fun e w' => e = .returned (.tuple #[.string (S (Tr.cut32 s.data.toList).1), .string (S (Tr.cut32 s.data.toList).2.1), .bool (Tr.cut32 s.data.toList).2.2]) ∧ Below w.heap.size w w' := by
  go_enter Tryz.func120, Tryz.ntmps120
  go_wp2_with (go_at_call 159; refine (liteCut_any _ hs _).mono ?_; rintro e w' ⟨rfl, hB⟩)
  go_ret3
  exact ⟨rfl, hB⟩
end Go.Proofs.YthdlfeejeboboaaGreatDoor
namespace Go.Proofs.YthdlfeejeboboaaGreatDoor
open Go.RowKit
set_option maxRecDepth 100000

namespace Tr
def nB (x : Nd) : Bool := if x.kind == 1 then decide (0 ≤ x.n) else if x.kind == 3 then decide (0 ≤ x.n) && decide (x.n ≤ 1) else x.n == 0
def sB (x : Nd) : Bool :=
  if x.kind == 2 then (Tx.quoted (nm x)).isSome
  else if x.kind == 4 || x.kind == 5 || x.kind == 8 then nameB (nm x)
  else if x.kind == 6 then nameB (cut32 (nm x)).1 && nameB (cut32 (nm x)).2.1
  else (nm x).isEmpty
def tB (x : Nd) : Bool := if x.kind == 5 || x.kind == 6 || x.kind == 8 then noteB x.t.data.toList else if x.kind == 29 then typB x.t.data.toList else x.t.data.toList.isEmpty
def uB (x : Nd) : Bool := if x.kind == 5 || x.kind == 6 then noteB x.u.data.toList else x.u.data.toList.isEmpty
def mayB (x : Nd) : Bool := fitB x && nB x && sB x && tB x && uB x
end Tr

theorem bcell {W w1 : World} (hb : Below W.heap.size W w1) : (∀ b o, b < W.heap.size → w1.cell? ⟨b, o, none⟩ = W.cell? ⟨b, o, none⟩) ∧ (∀ b o, b < W.heap.size → w1.frozen? ⟨b, o, none⟩ = W.frozen? ⟨b, o, none⟩) :=
  ⟨fun b o h => hb.cell (p := ⟨b, o, none⟩) h, fun b o h => hb.frozen (p := ⟨b, o, none⟩) h⟩
theorem fit_node (kind kids n : Int) (s t u : ByteArray) (ln co : Int) (w : World) :
    Calls Tryz.prog 135 #[.agg #[.int .i8 kind, .int .i64 kids, .int .i64 n, .string s, .string t, .string u, .int .i64 ln, .int .i64 co]] w fun e w' => e = .returned (.bool (Tr.fitB ⟨kind, kids, n, s, t, u, ln, co⟩)) ∧ Below w.heap.size w w' := kidsFit_any ⟨kind, kids, n, s, t, u, ln, co⟩ w

theorem bt {a b c : World} (h : Below a.heap.size a b) (k : Below b.heap.size b c) : Below a.heap.size a c := h.trans (k.mono h.size)
theorem balloc {a b : World} (h : Below a.heap.size a b) (o : Obj) : Below a.heap.size a (b.alloc o) := h.alloc h.size o
theorem bset {a b : World} (h : Below a.heap.size a b) {o : Nat} {v : Value} : Below a.heap.size a (b.setCell ⟨a.heap.size, o, none⟩ v) := h.setCell (Nat.le_refl _) v

set_option maxHeartbeats 4000000 in
theorem be_var (kids n : Int) (s t u : ByteArray) (ln co : Int) (hs : s.size ≤ maxLen) (w : World) :
    Calls Tryz.prog 80 #[.agg #[.int .i8 4, .int .i64 kids, .int .i64 n, .string s, .string t, .string u, .int .i64 ln, .int .i64 co]] w fun e w' => e = .returned (.bool (Tr.mayB ⟨4, kids, n, s, t, u, ln, co⟩)) ∧ Below w.heap.size w w' := by
  have hk := fit_node 4 kids n s t u ln co
  have hn := isName_any s hs
  have HM : Aside (Tr.mayB ⟨4, kids, n, s, t, u, ln, co⟩ = (Tr.fitB ⟨4, kids, n, s, t, u, ln, co⟩ && n == 0 && nameB s.data.toList && t.toList.isEmpty && u.toList.isEmpty)) := by show _ = _; simp only [str_empty]; rfl
  generalize Tr.fitB ⟨4, kids, n, s, t, u, ln, co⟩ = f at *
  generalize nameB s.data.toList = f2 at *
  go_enter Tryz.func80, Tryz.ntmps80
  go_wp2_with (first | (go_at_call 135; refine (hk _).mono ?_; rintro e w1 ⟨rfl, hB1⟩; obtain ⟨hc1, hf1⟩ := bcell hB1; have hz1 : w.heap.size < w1.heap.size := by have := hB1.size; (try simp at this); omega) | (go_at_call 24; refine (hn _).mono ?_; rintro e w2 ⟨rfl, hB2⟩; obtain ⟨hc2, hf2⟩ := bcell hB2; have hz2 : w.heap.size < w2.heap.size := by have := hB2.size; (try simp at this); omega))
  all_goals
    go_ret
    rw [HM.out]
    go_light
    refine ⟨ret_bool ?_, ?_⟩
    · clear HM
      first
        | (simp [*]; done)
        | (simp [*]; intros; omega)
    · repeat (first | exact Below.refl _ _ | refine bset ?_ | refine balloc ?_ _ | refine bt ?_ (by assumption))

set_option maxHeartbeats 4000000 in
theorem be_let (kids n : Int) (s t u : ByteArray) (ln co : Int) (hs : s.size ≤ maxLen) (w : World) :
    Calls Tryz.prog 80 #[.agg #[.int .i8 8, .int .i64 kids, .int .i64 n, .string s, .string t, .string u, .int .i64 ln, .int .i64 co]] w fun e w' => e = .returned (.bool (Tr.mayB ⟨8, kids, n, s, t, u, ln, co⟩)) ∧ Below w.heap.size w w' := by
  have hk := fit_node 8 kids n s t u ln co
  have hn := isName_any s hs
  have ht := isAnn_any t
  have HM : Aside (Tr.mayB ⟨8, kids, n, s, t, u, ln, co⟩ = (Tr.fitB ⟨8, kids, n, s, t, u, ln, co⟩ && n == 0 && nameB s.data.toList && noteB t.data.toList && u.toList.isEmpty)) := by show _ = _; simp only [str_empty]; rfl
  generalize Tr.fitB ⟨8, kids, n, s, t, u, ln, co⟩ = f at *
  generalize nameB s.data.toList = f2 at *
  generalize noteB t.data.toList = f3 at *
  go_enter Tryz.func80, Tryz.ntmps80
  go_wp2_with (first | (go_at_call 135; refine (hk _).mono ?_; rintro e w1 ⟨rfl, hB1⟩; obtain ⟨hc1, hf1⟩ := bcell hB1; have hz1 : w.heap.size < w1.heap.size := by have := hB1.size; (try simp at this); omega) | (go_at_call 24; refine (hn _).mono ?_; rintro e w2 ⟨rfl, hB2⟩; obtain ⟨hc2, hf2⟩ := bcell hB2; have hz2 : w.heap.size < w2.heap.size := by have := hB2.size; (try simp at this); omega) | (go_at_call 138; refine (ht _).mono ?_; rintro e w' ⟨rfl, hw'⟩; replace hw' := hw'.symm; subst hw'))
  all_goals
    go_ret
    rw [HM.out]
    go_light
    refine ⟨ret_bool ?_, ?_⟩
    · clear HM
      first
        | (simp [*]; done)
        | (simp [*]; intros; omega)
    · repeat (first | exact Below.refl _ _ | refine bset ?_ | refine balloc ?_ _ | refine bt ?_ (by assumption))

set_option maxHeartbeats 4000000 in
theorem be_as (kids n : Int) (s t u : ByteArray) (ln co : Int) (_ : s.size ≤ maxLen) (w : World) :
    Calls Tryz.prog 80 #[.agg #[.int .i8 29, .int .i64 kids, .int .i64 n, .string s, .string t, .string u, .int .i64 ln, .int .i64 co]] w fun e w' => e = .returned (.bool (Tr.mayB ⟨29, kids, n, s, t, u, ln, co⟩)) ∧ Below w.heap.size w w' := by
  have hk := fit_node 29 kids n s t u ln co
  have ht := isType_any t
  have HM : Aside (Tr.mayB ⟨29, kids, n, s, t, u, ln, co⟩ = (Tr.fitB ⟨29, kids, n, s, t, u, ln, co⟩ && n == 0 && s.toList.isEmpty && typB t.data.toList && u.toList.isEmpty)) := by show _ = _; simp only [str_empty]; rfl
  generalize Tr.fitB ⟨29, kids, n, s, t, u, ln, co⟩ = f at *
  generalize typB t.data.toList = f3 at *
  go_enter Tryz.func80, Tryz.ntmps80
  go_wp2_with (first | (go_at_call 135; refine (hk _).mono ?_; rintro e w1 ⟨rfl, hB1⟩; obtain ⟨hc1, hf1⟩ := bcell hB1; have hz1 : w.heap.size < w1.heap.size := by have := hB1.size; (try simp at this); omega) | (go_at_call 137; refine (ht _).mono ?_; rintro e w' ⟨rfl, hw'⟩; replace hw' := hw'.symm; subst hw'))
  all_goals
    go_ret
    rw [HM.out]
    go_light
    refine ⟨ret_bool ?_, ?_⟩
    · clear HM
      first
        | (simp [*]; done)
        | (simp [*]; intros; omega)
    · repeat (first | exact Below.refl _ _ | refine bset ?_ | refine balloc ?_ _ | refine bt ?_ (by assumption))

set_option maxHeartbeats 4000000 in
theorem be_num (kids n : Int) (s t u : ByteArray) (ln co : Int) (_ : s.size ≤ maxLen) (w : World) :
    Calls Tryz.prog 80 #[.agg #[.int .i8 1, .int .i64 kids, .int .i64 n, .string s, .string t, .string u, .int .i64 ln, .int .i64 co]] w fun e w' => e = .returned (.bool (Tr.mayB ⟨1, kids, n, s, t, u, ln, co⟩)) ∧ Below w.heap.size w w' := by
  have hk := fit_node 1 kids n s t u ln co
  have HM : Aside (Tr.mayB ⟨1, kids, n, s, t, u, ln, co⟩ = (Tr.fitB ⟨1, kids, n, s, t, u, ln, co⟩ && decide (0 ≤ n) && s.toList.isEmpty && t.toList.isEmpty && u.toList.isEmpty)) := by show _ = _; simp only [str_empty]; rfl
  generalize Tr.fitB ⟨1, kids, n, s, t, u, ln, co⟩ = f at *
  go_enter Tryz.func80, Tryz.ntmps80
  go_wp2_with (first | (go_at_call 135; refine (hk _).mono ?_; rintro e w1 ⟨rfl, hB1⟩; obtain ⟨hc1, hf1⟩ := bcell hB1; have hz1 : w.heap.size < w1.heap.size := by have := hB1.size; (try simp at this); omega))
  all_goals
    go_ret
    rw [HM.out]
    go_light
    refine ⟨ret_bool ?_, ?_⟩
    · clear HM
      first
        | (simp [*]; done)
        | (simp [*]; intros; omega)
    · repeat (first | exact Below.refl _ _ | refine bset ?_ | refine balloc ?_ _ | refine bt ?_ (by assumption))

set_option maxHeartbeats 4000000 in
theorem be_truth (kids n : Int) (s t u : ByteArray) (ln co : Int) (_ : s.size ≤ maxLen) (w : World) :
    Calls Tryz.prog 80 #[.agg #[.int .i8 3, .int .i64 kids, .int .i64 n, .string s, .string t, .string u, .int .i64 ln, .int .i64 co]] w fun e w' => e = .returned (.bool (Tr.mayB ⟨3, kids, n, s, t, u, ln, co⟩)) ∧ Below w.heap.size w w' := by
  have hk := fit_node 3 kids n s t u ln co
  have HM : Aside (Tr.mayB ⟨3, kids, n, s, t, u, ln, co⟩ = (Tr.fitB ⟨3, kids, n, s, t, u, ln, co⟩ && (decide (0 ≤ n) && decide (n ≤ 1)) && s.toList.isEmpty && t.toList.isEmpty && u.toList.isEmpty)) := by show _ = _; simp only [str_empty]; rfl
  generalize Tr.fitB ⟨3, kids, n, s, t, u, ln, co⟩ = f at *
  go_enter Tryz.func80, Tryz.ntmps80
  go_wp2_with (first | (go_at_call 135; refine (hk _).mono ?_; rintro e w1 ⟨rfl, hB1⟩; obtain ⟨hc1, hf1⟩ := bcell hB1; have hz1 : w.heap.size < w1.heap.size := by have := hB1.size; (try simp at this); omega))
  all_goals
    go_ret
    rw [HM.out]
    go_light
    refine ⟨ret_bool ?_, ?_⟩
    · clear HM
      first
        | (simp [*]; done)
        | (simp [*]; intros; omega)
    · repeat (first | exact Below.refl _ _ | refine bset ?_ | refine balloc ?_ _ | refine bt ?_ (by assumption))

end Go.Proofs.YthdlfeejeboboaaGreatDoor
namespace Go.Proofs.YthdlfeejeboboaaGreatDoor
open Go.RowKit
set_option maxRecDepth 100000

theorem Tr.cut32_len : ∀ l : List UInt8, (Tr.cut32 l).1.length ≤ l.length ∧ (Tr.cut32 l).2.1.length ≤ l.length
  | [] => by simp [Tr.cut32]
  | c :: r => by
    have := Tr.cut32_len r
    rw [Tr.cut32]
    split
    · simp
    · simp; omega
theorem quote_node (s : ByteArray) (hs : s.size ≤ maxLen) (w : World) :
    Calls Tryz.prog 136 #[.string s] w fun e w' => ∃ (q : ByteArray) (er : Int), e = .returned (.tuple #[.string q, .int .i64 er]) ∧ (er == 0) = (Tx.quoted s.data.toList).isSome ∧ Below w.heap.size w w' := by
  refine (quote_any s hs w).mono ?_
  rintro e w' ⟨hq, hB⟩
  cases h : Tx.quoted s.data.toList with
  | none => rw [h] at hq; exact ⟨_, _, hq, rfl, hB⟩
  | some q => rw [h] at hq; exact ⟨_, _, hq, rfl, hB⟩

set_option maxHeartbeats 4000000 in
theorem be_fn (kids n : Int) (s t u : ByteArray) (ln co : Int) (hs : s.size ≤ maxLen) (w : World) :
    Calls Tryz.prog 80 #[.agg #[.int .i8 5, .int .i64 kids, .int .i64 n, .string s, .string t, .string u, .int .i64 ln, .int .i64 co]] w fun e w' => e = .returned (.bool (Tr.mayB ⟨5, kids, n, s, t, u, ln, co⟩)) ∧ Below w.heap.size w w' := by
  have hk := fit_node 5 kids n s t u ln co
  have hn := isName_any s hs
  have ht := isAnn_any t
  have hu := isAnn_any u
  have HM : Aside (Tr.mayB ⟨5, kids, n, s, t, u, ln, co⟩ = (Tr.fitB ⟨5, kids, n, s, t, u, ln, co⟩ && n == 0 && nameB s.data.toList && noteB t.data.toList && noteB u.data.toList)) := rfl
  generalize Tr.fitB ⟨5, kids, n, s, t, u, ln, co⟩ = f at *
  generalize nameB s.data.toList = f2 at *
  generalize noteB t.data.toList = f3 at *
  generalize noteB u.data.toList = f4 at *
  go_enter Tryz.func80, Tryz.ntmps80
  go_wp2_with (first | (go_at_call 135; refine (hk _).mono ?_; rintro e w1 ⟨rfl, hB1⟩; obtain ⟨hc1, hf1⟩ := bcell hB1; have hz1 : w.heap.size < w1.heap.size := by have := hB1.size; (try simp at this); omega) | (go_at_call 24; refine (hn _).mono ?_; rintro e w2 ⟨rfl, hB2⟩; obtain ⟨hc2, hf2⟩ := bcell hB2; have hz2 : w.heap.size < w2.heap.size := by have := hB2.size; (try simp at this); omega) | (go_at_call_of 138 t; refine (ht _).mono ?_; rintro e w' ⟨rfl, hw'⟩; replace hw' := hw'.symm; subst hw') | (go_at_call_of 138 u; refine (hu _).mono ?_; rintro e w' ⟨rfl, hw'⟩; replace hw' := hw'.symm; subst hw'))
  all_goals
    go_ret
    rw [HM.out]
    go_light
    refine ⟨ret_bool ?_, ?_⟩
    · clear HM
      first
        | (simp [*]; done)
        | (simp [*]; intros; omega)
    · repeat (first | exact Below.refl _ _ | refine bset ?_ | refine balloc ?_ _ | refine bt ?_ (by assumption))

set_option maxHeartbeats 4000000 in
theorem be_rec (kids n : Int) (s t u : ByteArray) (ln co : Int) (hs : s.size ≤ maxLen) (w : World) :
    Calls Tryz.prog 80 #[.agg #[.int .i8 6, .int .i64 kids, .int .i64 n, .string s, .string t, .string u, .int .i64 ln, .int .i64 co]] w fun e w' => e = .returned (.bool (Tr.mayB ⟨6, kids, n, s, t, u, ln, co⟩)) ∧ Below w.heap.size w w' := by
  have hk := fit_node 6 kids n s t u ln co
  have hcut := cut_any s hs
  have hl : (Tr.cut32 s.data.toList).1.length ≤ s.data.toList.length ∧ (Tr.cut32 s.data.toList).2.1.length ≤ s.data.toList.length := Tr.cut32_len _
  have hsl := str_len s
  have hn1 := isName_any (S (Tr.cut32 s.data.toList).1) (by rw [S_size]; omega)
  have hn2 := isName_any (S (Tr.cut32 s.data.toList).2.1) (by rw [S_size]; omega)
  rw [S_list] at hn1 hn2
  have ht := isAnn_any t
  have hu := isAnn_any u
  have HM : Aside (Tr.mayB ⟨6, kids, n, s, t, u, ln, co⟩ = (Tr.fitB ⟨6, kids, n, s, t, u, ln, co⟩ && n == 0 && (nameB (Tr.cut32 s.data.toList).1 && nameB (Tr.cut32 s.data.toList).2.1) && noteB t.data.toList && noteB u.data.toList)) := rfl
  generalize Tr.fitB ⟨6, kids, n, s, t, u, ln, co⟩ = f at *
  generalize nameB (Tr.cut32 s.data.toList).1 = f1 at *
  generalize nameB (Tr.cut32 s.data.toList).2.1 = f2 at *
  generalize S (Tr.cut32 s.data.toList).1 = x at *
  generalize S (Tr.cut32 s.data.toList).2.1 = y at *
  generalize (Tr.cut32 s.data.toList).2.2 = fo at *
  generalize noteB t.data.toList = f3 at *
  generalize noteB u.data.toList = f4 at *
  clear hl hsl
  go_enter Tryz.func80, Tryz.ntmps80
  go_wp2_with (first | (go_at_call 135; refine (hk _).mono ?_; rintro e w1 ⟨rfl, hB1⟩; have hc1 := fun o => (bcell hB1).1 w.heap.size o (by first | (simp; done) | (simp; omega) | omega); have hf1 := fun o => (bcell hB1).2 w.heap.size o (by first | (simp; done) | (simp; omega) | omega); have hz1 : w.heap.size < w1.heap.size := by have := hB1.size; (try simp at this); omega) | (go_at_call 120; refine (hcut _).mono ?_; rintro e w2 ⟨rfl, hB2⟩; have hc2 := fun o => (bcell hB2).1 w.heap.size o (by first | (simp; done) | (simp; omega) | omega); have hf2 := fun o => (bcell hB2).2 w.heap.size o (by first | (simp; done) | (simp; omega) | omega); have hz2 : w.heap.size < w2.heap.size := by have := hB2.size; (try simp at this); omega) | (go_at_call_of 24 x; refine (hn1 _).mono ?_; rintro e w3 ⟨rfl, hB3⟩; have hc3 := fun o => (bcell hB3).1 w.heap.size o (by first | (simp; done) | (simp; omega) | omega); have hf3 := fun o => (bcell hB3).2 w.heap.size o (by first | (simp; done) | (simp; omega) | omega); have hz3 : w.heap.size < w3.heap.size := by have := hB3.size; (try simp at this); omega) | (go_at_call_of 24 y; refine (hn2 _).mono ?_; rintro e w4 ⟨rfl, hB4⟩; have hc4 := fun o => (bcell hB4).1 w.heap.size o (by first | (simp; done) | (simp; omega) | omega); have hf4 := fun o => (bcell hB4).2 w.heap.size o (by first | (simp; done) | (simp; omega) | omega); have hz4 : w.heap.size < w4.heap.size := by have := hB4.size; (try simp at this); omega) | (go_at_call_of 138 t; refine (ht _).mono ?_; rintro e w' ⟨rfl, hw'⟩; replace hw' := hw'.symm; subst hw') | (go_at_call_of 138 u; refine (hu _).mono ?_; rintro e w' ⟨rfl, hw'⟩; replace hw' := hw'.symm; subst hw'))
  all_goals
    go_ret
    rw [HM.out]
    go_light
    refine ⟨ret_bool ?_, ?_⟩
    · clear HM
      first
        | (simp [*]; done)
        | (simp [*]; intros; omega)
    · repeat (first | exact Below.refl _ _ | refine bset ?_ | refine balloc ?_ _ | refine bt ?_ (by assumption))

set_option maxHeartbeats 4000000 in
theorem be_str (kids n : Int) (s t u : ByteArray) (ln co : Int) (hs : s.size ≤ maxLen) (w : World) :
    Calls Tryz.prog 80 #[.agg #[.int .i8 2, .int .i64 kids, .int .i64 n, .string s, .string t, .string u, .int .i64 ln, .int .i64 co]] w fun e w' => e = .returned (.bool (Tr.mayB ⟨2, kids, n, s, t, u, ln, co⟩)) ∧ Below w.heap.size w w' := by
  have hk := fit_node 2 kids n s t u ln co
  have hq := quote_node s hs
  have HM : Aside (Tr.mayB ⟨2, kids, n, s, t, u, ln, co⟩ = (Tr.fitB ⟨2, kids, n, s, t, u, ln, co⟩ && n == 0 && (Tx.quoted s.data.toList).isSome && t.toList.isEmpty && u.toList.isEmpty)) := by show _ = _; simp only [str_empty]; rfl
  generalize Tr.fitB ⟨2, kids, n, s, t, u, ln, co⟩ = f at *
  generalize (Tx.quoted s.data.toList).isSome = f2 at *
  go_enter Tryz.func80, Tryz.ntmps80
  go_wp2_with (first | (go_at_call 135; refine (hk _).mono ?_; rintro e w1 ⟨rfl, hB1⟩; obtain ⟨hc1, hf1⟩ := bcell hB1; have hz1 : w.heap.size < w1.heap.size := by have := hB1.size; (try simp at this); omega) | (go_at_call 136; refine (hq _).mono ?_; rintro e w2 ⟨q, er, rfl, her, hB2⟩; obtain ⟨hc2, hf2⟩ := bcell hB2; have hz2 : w.heap.size < w2.heap.size := by have := hB2.size; (try simp at this); omega))
  all_goals
    go_ret
    rw [HM.out]
    go_light
    refine ⟨ret_bool ?_, ?_⟩
    · clear HM
      first
        | (simp [*]; done)
        | (simp [*]; intros; omega)
    · repeat (first | exact Below.refl _ _ | refine bset ?_ | refine balloc ?_ _ | refine bt ?_ (by assumption))

set_option maxHeartbeats 4000000 in
theorem be_other (kind : Int) (h1 : kind ≠ 1) (h2 : kind ≠ 2) (h3 : kind ≠ 3) (h4 : kind ≠ 4) (h5 : kind ≠ 5) (h6 : kind ≠ 6) (h8 : kind ≠ 8) (h29 : kind ≠ 29) (kids n : Int) (s t u : ByteArray) (ln co : Int) (_ : s.size ≤ maxLen) (w : World) :
    Calls Tryz.prog 80 #[.agg #[.int .i8 kind, .int .i64 kids, .int .i64 n, .string s, .string t, .string u, .int .i64 ln, .int .i64 co]] w fun e w' => e = .returned (.bool (Tr.mayB ⟨kind, kids, n, s, t, u, ln, co⟩)) ∧ Below w.heap.size w w' := by
  have hk := fit_node kind kids n s t u ln co
  have e3 : (kind == 3) = false := by simpa using h3
  have e1 : (kind == 1) = false := by simpa using h1
  have e2 : (kind == 2) = false := by simpa using h2
  have e29 : (kind == 29) = false := by simpa using h29
  have e6 : (kind == 6) = false := by simpa using h6
  have e5 : (kind == 5) = false := by simpa using h5
  have e8 : (kind == 8) = false := by simpa using h8
  have e4 : (kind == 4) = false := by simpa using h4
  have HM : Aside (Tr.mayB ⟨kind, kids, n, s, t, u, ln, co⟩ = (Tr.fitB ⟨kind, kids, n, s, t, u, ln, co⟩ && n == 0 && s.toList.isEmpty && t.toList.isEmpty && u.toList.isEmpty)) := by show _ = _; simp only [str_empty]; simp [Tr.mayB, Tr.nB, Tr.sB, Tr.tB, Tr.uB, Tr.nm, h1, h2, h3, h4, h5, h6, h8, h29]
  generalize Tr.fitB ⟨kind, kids, n, s, t, u, ln, co⟩ = f at *
  clear h1 h2 h3 h4 h5 h6 h8 h29
  go_enter Tryz.func80, Tryz.ntmps80
  go_wp2_with (first | (go_at_call 135; refine (hk _).mono ?_; rintro e w1 ⟨rfl, hB1⟩; obtain ⟨hc1, hf1⟩ := bcell hB1; have hz1 : w.heap.size < w1.heap.size := by have := hB1.size; (try simp at this); omega))
  all_goals
    go_ret
    rw [HM.out]
    go_light
    refine ⟨ret_bool ?_, ?_⟩
    · clear HM
      first
        | (simp [*]; done)
        | (simp [*]; intros; omega)
    · repeat (first | exact Below.refl _ _ | refine bset ?_ | refine balloc ?_ _ | refine bt ?_ (by assumption))

end Go.Proofs.YthdlfeejeboboaaGreatDoor
