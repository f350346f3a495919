/- CheckLooser: looser, looserTree. -/
import Derived.Test.YthihnkgjkmaplaaDoorWad
import Derived.Test.YthihnkgjkmaplaaDoorUbd
namespace Go.Proofs.YthihnkgjkmaplaaDoor
open Go.RowKit Ck
open T3.Tp (Ty enc cns met prc)
open Tr (flat wf)
set_option maxRecDepth 100000
set_option linter.unusedSimpArgs false

/-- An annotation that is at least as loose. -/
def looP (s t : ByteArray) : Prop := t = ⟨#[]⟩ ∨ t = s ∨ (∃ a b : Ty, s = S (enc a) ∧ t = S (enc b) ∧ prc a b = true) ∨ (s = ⟨#[]⟩ ∧ t = ⟨#[63]⟩)
theorem looP_wr {s t : ByteArray} (h : looP s t) (hs : s = ⟨#[]⟩ ∨ typB s.data.toList = true) : prc (wr s) (wr t) = true := by
  have hq : ∀ a : Ty, prc a .tq = true := fun a => by cases a <;> rfl
  rcases h with rfl | rfl | ⟨a, b, rfl, rfl, h⟩ | ⟨rfl, rfl⟩
  · exact hq _
  · exact T3.Tp.prc_refl _
  · have e : ∀ a : Ty, wr (S (enc a)) = a := fun a => by
      have h0 := T3.Tp.enc_pos a
      unfold wr
      rw [if_neg (by rw [S_size]; omega), S_list, tyOf_enc]
    rw [e, e]; exact h
  · rfl
/-- How looser ends. -/
def LoEnd (P : Prop) (w : World) (e : Ending) (w' : World) : Prop := ∃ b, e = .returned (.bool b) ∧ (b = true → P) ∧ Below w.heap.size w w'
theorem LoEnd.mk {P : Prop} {w w' : World} {b : Bool} (h : b = true → P) (hB : Below w.heap.size w w') : LoEnd P w (.returned (.bool b)) w' := ⟨b, rfl, h, hB⟩
/-- Precise, of any two texts. -/
theorem precise_any (s t : ByteArray) (w : World) : Calls Tryd.prog 10 #[.string s, .string t] w fun e w' => ∃ b, e = .returned (.bool b) ∧ (b = true → ∃ a c : Ty, s = S (enc a) ∧ t = S (enc c) ∧ prc a c = true ∧ (enc c).length ≤ 64) ∧ Below w.heap.size w w' := by
  by_cases h : (T3.Tp.chk s.data.toList).1 ≠ 0 ∨ (T3.Tp.chk t.data.toList).1 ≠ 0
  · exact (T3.precise_no s.data.toList t.data.toList h w).mono fun e w' ⟨he, hB⟩ => ⟨false, he, by simp, hB⟩
  · have h1 : (T3.Tp.chk s.data.toList).1 = 0 := Classical.byContradiction fun e => h (.inl e)
    have h2 : (T3.Tp.chk t.data.toList).1 = 0 := Classical.byContradiction fun e => h (.inr e)
    obtain ⟨a, e1, l1⟩ := T3.Tp.chk_dec h1
    obtain ⟨c, e2, l2⟩ := T3.Tp.chk_dec h2
    have f1 : s = S (enc a) := by rw [← e1]; rfl
    have f2 : t = S (enc c) := by rw [← e2]; rfl
    rw [f1, f2]
    exact (T3.precise_yes a c l1 l2 w).mono fun e w' ⟨he, hB⟩ => ⟨prc a c, he, fun hp => ⟨a, c, rfl, rfl, hp, l2⟩, hB⟩

theorem ne_empty {s : ByteArray} (h : ¬ s = ⟨#[]⟩) : (s.toList == []) = false ∧ s.toList.isEmpty = false := by
  have h1 : (s.toList == []) = false := by have := (Lib.bytes_beq_false_iff s ⟨#[]⟩).2 h; simpa using this
  exact ⟨h1, by cases hh : s.toList with | nil => rw [hh] at h1; simp at h1 | cons a r => rfl⟩

set_option maxHeartbeats 2000000 in
theorem looser_any (s t : ByteArray) (w : World) : Calls Tryd.prog 19 #[.string s, .string t] w (LoEnd (looP s t) w) := by
  by_cases h1 : t = ⟨#[]⟩
  · subst h1
    go_enter Tryd.func19, Tryd.ntmps19
    go_wp2_with fail
    go_ret
    exact LoEnd.mk (b := true) (fun _ => .inl rfl) (Below.refl _ _)
  · obtain ⟨k1, k2⟩ := ne_empty h1
    by_cases h2 : t = s
    · subst h2
      go_enter Tryd.func19, Tryd.ntmps19
      go_wp2_with fail
      go_ret
      exact LoEnd.mk (b := true) (fun _ => .inr (.inl rfl)) (Below.refl _ _)
    · have k3 : (t.toList == s.toList) = false := (Lib.bytes_beq_false_iff t s).2 h2
      by_cases h3 : s = ⟨#[]⟩
      · subst h3
        by_cases h4 : t = ⟨#[63]⟩
        · subst h4
          go_enter Tryd.func19, Tryd.ntmps19
          go_wp2_with fail
          go_ret
          exact LoEnd.mk (b := true) (fun _ => .inr (.inr (.inr ⟨rfl, rfl⟩))) (Below.refl _ _)
        · have k4 : (t.toList == [63]) = false := by have := (Lib.bytes_beq_false_iff t ⟨#[63]⟩).2 h4; simpa using this
          go_enter Tryd.func19, Tryd.ntmps19
          go_wp2_with fail
          go_ret
          exact LoEnd.mk (b := false) (by simp) (Below.refl _ _)
      · obtain ⟨k5, k6⟩ := ne_empty h3
        have hp := precise_any s t
        go_enter Tryd.func19, Tryd.ntmps19
        go_wp2_with fail
        go_at_call 10
        refine (hp _).mono ?_
        rintro e w1 ⟨b, rfl, hb, hB1⟩
        cases b
        · go_wp2_with fail
          go_ret
          exact LoEnd.mk (b := false) (by simp) hB1
        · go_wp2_with fail
          go_ret
          exact LoEnd.mk (b := true) (fun _ => by obtain ⟨a, c, q1, q2, q3, _⟩ := hb (by simp); exact .inr (.inr (.inl ⟨a, c, q1, q2, q3⟩))) hB1
/-- The same node, but for annotations that are looser. -/
def looN (x y : Tr.Nd) : Prop := looP x.t y.t ∧ looP x.u y.u ∧ y.kind = x.kind ∧ y.kids = x.kids ∧ y.s = x.s
def looL (l m : List Tr.Nd) : Prop := l.length = m.length ∧ ∀ (j : Nat) x y, l[j]? = some x → m[j]? = some y → looN x y
end Go.Proofs.YthihnkgjkmaplaaDoor
