/- CheckLooser: plain facts. -/
import Derived.Test.YthihnkgjkmaplaaDoorWag
namespace Go.Proofs.YthihnkgjkmaplaaDoor
open Go.RowKit Ck
open T3.Tp (Ty enc cns met prc)
open Tr (flat wf)
set_option maxRecDepth 100000
set_option linter.unusedSimpArgs false

theorem note_of {s : ByteArray} (h : noteB s.data.toList = true) : s = ⟨#[]⟩ ∨ typB s.data.toList = true := by
  by_cases h0 : s.size = 0
  · left
    obtain ⟨⟨d⟩⟩ := s
    have : d = [] := by simpa [ByteArray.size] using h0
    rw [this]
  · right
    unfold noteB at h
    have hne : s.data.toList.isEmpty = false := by
      cases hh : s.data.toList with
      | nil => exact absurd (by rw [← str_len, hh]; rfl) h0
      | cons a r => rfl
    rw [hne] at h
    simpa using h
theorem may_notes {x : Tr.Nd} (h : Tr.mayB x = true) : (x.t = ⟨#[]⟩ ∨ typB x.t.data.toList = true) ∧ (x.u = ⟨#[]⟩ ∨ typB x.u.data.toList = true) := by
  unfold Tr.mayB at h
  simp only [Bool.and_eq_true] at h
  obtain ⟨⟨_, ht⟩, hu⟩ := h
  have em : ∀ s : ByteArray, s.data.toList.isEmpty = true → s = ⟨#[]⟩ ∨ typB s.data.toList = true := fun s hs => .inl (by
    obtain ⟨⟨d⟩⟩ := s
    have : d = [] := by simpa using hs
    rw [this])
  refine ⟨?_, ?_⟩
  · unfold Tr.tB at ht
    split at ht
    · exact note_of ht
    · split at ht
      · exact .inr ht
      · exact em _ ht
  · unfold Tr.uB at hu
    split at hu
    · exact note_of hu
    · exact em _ hu
theorem looL_lo : ∀ {l m : List Tr.Nd}, looL l m → (∀ x ∈ l, Tr.mayB x = true) → LoF l m
  | [], [], _, _ => trivial
  | [], _ :: _, h, _ => by have := h.1; simp at this
  | _ :: _, [], h, _ => by have := h.1; simp at this
  | x :: l, y :: m, h, hm => by
    obtain ⟨h1, h2, h3, h4, h5⟩ := h.2 0 x y rfl rfl
    obtain ⟨k1, k2⟩ := may_notes (hm x (by simp))
    refine ⟨⟨h3, h4, h5, looP_wr h1 k1, looP_wr h2 k2⟩, looL_lo ⟨by have := h.1; simpa using this, fun j a b ha hb => h.2 (j + 1) a b (by simpa using ha) (by simpa using hb)⟩ (fun a ha => hm a (by simp [ha]))⟩
/-- Types one by one less precise. -/
def prcL (a b : List Ty) : Prop := a.length = b.length ∧ ∀ (j : Nat) s t, a[j]? = some s → b[j]? = some t → prc s t = true
theorem LoY.to : ∀ {a b : List Ty}, LoY a b → prcL a b
  | [], [], _ => ⟨rfl, fun j s t h => by simp at h⟩
  | [], _ :: _, h => h.elim
  | _ :: _, [], h => h.elim
  | x :: a, y :: b, h => by
    obtain ⟨h1, h2⟩ := LoY.to h.2
    refine ⟨by simp [h1], fun j s t hs ht => ?_⟩
    cases j with
    | zero => simp at hs ht; subst hs ht; exact h.1
    | succ j => exact h2 j s t (by simpa using hs) (by simpa using ht)
theorem rel_env {N : List (List UInt8)} {ts us : List Ty} (hl : N.length = ts.length) (h : prcL ts us) : RelOn (fun _ => True) (envOf N ts) (envOf N us) := by
  intro n _ t ht
  have l2 : N.length = us.length := by rw [hl, h.1]
  have e1 := look_last N ts hl N.length (Nat.le_refl _) n
  have e2 := look_last N us l2 N.length (Nat.le_refl _) n
  rw [List.take_of_length_le (by simp; omega)] at e1 e2
  unfold envOf at ht ⊢
  rw [e1] at ht
  rw [e2]
  cases hj : lastAt N N.length n with
  | none => rw [hj] at ht; simp at ht
  | some j =>
    rw [hj] at ht
    have hjl := lastAt_lt hj
    refine ⟨us[j]'(by omega), List.getElem?_eq_getElem (by omega), h.2 j t _ ht (List.getElem?_eq_getElem (by omega))⟩
/-- Texts that are types, each less precise than another: an environment too. -/
theorem S_inj {a b : List UInt8} (h : S a = S b) : a = b := by
  have := congrArg (fun s : ByteArray => s.data.toList) h
  exact this
theorem env_loose {N Th T2 : List (List UInt8)} {ts : List Ty} (hE : envB N Th = true) (h3 : Th = ts.map enc) (hl : N.length = ts.length) (h2 : T2.length = Th.length) (h : ∀ (j : Nat) s t, Th[j]? = some s → T2[j]? = some t → ∃ a c : Ty, S s = S (enc a) ∧ S t = S (enc c) ∧ prc a c = true ∧ (enc c).length ≤ 64) :
    envB N T2 = true ∧ ∃ us : List Ty, T2 = us.map enc ∧ prcL ts us := by
  have hlt : Th.length = ts.length := by rw [h3, List.length_map]
  have hall : ∀ (j : Nat) t, T2[j]? = some t → ∃ a c : Ty, ts[j]? = some a ∧ t = enc c ∧ prc a c = true ∧ (enc c).length ≤ 64 := fun j t ht => by
    have hj := (List.getElem?_eq_some_iff.1 ht).1
    obtain ⟨tj, h4⟩ : ∃ u, ts[j]? = some u := ⟨ts[j], List.getElem?_eq_getElem (by omega)⟩
    have h5 : Th[j]? = some (enc tj) := by rw [h3, List.getElem?_map, h4]; rfl
    obtain ⟨a, c, q1, q2, q3, q4⟩ := h j _ t h5 ht
    obtain rfl : tj = a := T3.Tp.enc_inj (S_inj q1)
    exact ⟨_, c, h4, S_inj q2, q3, q4⟩
  have hm : T2 = (T2.map tyOf).map enc := by
    rw [List.map_map]
    conv => lhs; rw [← List.map_id T2]
    apply List.map_congr_left
    intro t ht
    obtain ⟨j, hj⟩ := List.getElem?_of_mem ht
    obtain ⟨a, c, _, rfl, _, _⟩ := hall j t hj
    simp [tyOf_enc]
  refine ⟨?_, T2.map tyOf, hm, by rw [List.length_map]; omega, fun j s t hs ht => ?_⟩
  · unfold envB at hE ⊢
    simp only [Bool.and_eq_true, decide_eq_true_eq, List.all_eq_true, beq_iff_eq] at hE ⊢
    refine ⟨⟨by omega, fun t ht => ?_⟩, hE.2⟩
    obtain ⟨j, hj⟩ := List.getElem?_of_mem ht
    obtain ⟨a, c, _, rfl, _, q⟩ := hall j t hj
    rw [T3.Tp.chk_enc c q]
  · rw [List.getElem?_map] at ht
    cases hq : T2[j]? with
    | none => rw [hq] at ht; simp at ht
    | some q =>
      rw [hq] at ht
      obtain ⟨a, c, r1, rfl, r3, _⟩ := hall j q hq
      simp [tyOf_enc] at ht
      subst ht
      rw [hs] at r1
      cases r1
      exact r3
end Go.Proofs.YthihnkgjkmaplaaDoor
