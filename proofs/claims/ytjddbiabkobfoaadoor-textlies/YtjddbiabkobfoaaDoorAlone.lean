/- Plain facts: a text by itself is one Name just where it may name a thing, one Word just where it is a word. -/
import Derived.Test.YtjddbiabkobfoaaDoorRefNames
namespace Go.Proofs.YtjddbiabkobfoaaDoor
open Go.RowKit

theorem toks_mem (bs : List UInt8) : ∀ (f k : Nat) (l : List (Tx.Tk × Nat)), Tx.toks bs f k = .ok l → ∀ x ∈ l, x.2 < bs.length ∧ ∃ j, Tx.one bs x.2 = .ok (x.1, j)
  | 0, k, l => fun h x hx => by simp [Tx.toks] at h; subst h; cases hx
  | f + 1, k, l => fun h x hx => by
    by_cases hk : k < bs.length
    · by_cases h35 : (Tx.B bs k == 35) = true
      · rw [Tx.toks_remark hk h35] at h
        exact toks_mem bs f _ l h x hx
      · have h35' : (Tx.B bs k == 35) = false := by simpa using h35
        by_cases hb : Tx.blankB (Tx.B bs k) = true
        · rw [Tx.toks_blank hk h35' hb] at h
          exact toks_mem bs f _ l h x hx
        · have hb' : Tx.blankB (Tx.B bs k) = false := by simpa using hb
          cases h1 : Tx.one bs k with
          | error e => rw [Tx.toks_err hk h35' hb' h1] at h; cases h
          | ok r =>
            obtain ⟨t, j⟩ := r
            have h2 := Tx.toks_ok (f := f) [] hk h35' hb' h1
            rw [h, Tx.ahead_nil] at h2
            cases h3 : Tx.toks bs f j with
            | error e => rw [h3] at h2; simp [Tx.ahead] at h2
            | ok l' =>
              rw [h3] at h2
              simp [Tx.ahead] at h2
              subst h2
              rcases List.mem_cons.1 hx with rfl | hx'
              · exact ⟨hk, j, h1⟩
              · exact toks_mem bs f j l' h3 x hx'
    · rw [Tx.toks_end hk] at h
      cases h
      cases hx

theorem toks_error (bs : List UInt8) : ∀ (f k : Nat) (er : Int) (p : Nat), Tx.toks bs f k = .error (er, p) → (er = 11 ∨ er = 12 ∨ er = 13 ∨ er = 14) ∧ p < bs.length
  | 0, k, er, p => fun h => by simp [Tx.toks] at h
  | f + 1, k, er, p => fun h => by
    by_cases hk : k < bs.length
    · by_cases h35 : (Tx.B bs k == 35) = true
      · rw [Tx.toks_remark hk h35] at h
        exact toks_error bs f _ er p h
      · have h35' : (Tx.B bs k == 35) = false := by simpa using h35
        by_cases hb : Tx.blankB (Tx.B bs k) = true
        · rw [Tx.toks_blank hk h35' hb] at h
          exact toks_error bs f _ er p h
        · have hb' : Tx.blankB (Tx.B bs k) = false := by simpa using hb
          cases h1 : Tx.one bs k with
          | error e => rw [Tx.toks_err hk h35' hb' h1] at h; cases h; exact ⟨Tx.one_err h1, hk⟩
          | ok r =>
            obtain ⟨t, j⟩ := r
            have h2 := Tx.toks_ok (f := f) [] hk h35' hb' h1
            rw [h] at h2
            cases h3 : Tx.toks bs f j with
            | error e => rw [h3] at h2; simp [Tx.ahead] at h2; subst h2; exact toks_error bs f j er p h3
            | ok l' => rw [h3] at h2; simp [Tx.ahead] at h2
    · rw [Tx.toks_end hk] at h
      cases h

theorem sub_whole {bs : List UInt8} : Tx.sub bs 0 bs.length = bs := by simp [Tx.sub]

theorem letter_facts {c : Int} (h : Tx.letterB c = true) : (c == 35) = false ∧ Tx.blankB c = false := by
  unfold Tx.letterB at h
  unfold Tx.blankB
  simp at h ⊢
  omega

/-- A text of inner bytes that begins with a letter is one token. -/
theorem all_one {bs : List UInt8} (h1 : 0 < bs.length) (h2 : Tx.letterB (Tx.B bs 0) = true) (h3 : Tx.upTo Tx.innerB bs 0 = bs.length) (t : Tx.Tk) (ho : Tx.oneWord bs 0 = .ok (t, bs.length)) : Tx.all bs = .ok [(t, 0)] := by
  have hf := letter_facts h2
  have ho1 : Tx.one bs 0 = .ok (t, bs.length) := by unfold Tx.one; rw [if_pos h2, ho]
  have := Tx.toks_ok (f := bs.length) [] h1 hf.1 hf.2 ho1
  rw [Tx.ahead_nil] at this
  unfold Tx.all
  rw [this]
  have he : Tx.toks bs bs.length bs.length = .ok [] := by
    obtain ⟨n, hn⟩ : ∃ n, bs.length = n + 1 := ⟨bs.length - 1, by omega⟩
    conv => lhs; arg 2; rw [hn]
    exact Tx.toks_end (by omega)
  rw [he]
  rfl

theorem name_all {bs : List UInt8} (h : nameB bs = true) : Tx.all bs = .ok [(⟨2, 0, bs⟩, 0)] := by
  unfold nameB at h
  simp at h
  obtain ⟨⟨⟨⟨h1, h2⟩, h3⟩, h4⟩, h5⟩ := h
  refine all_one (by omega) h3 h4 _ ?_
  unfold Tx.oneWord
  rw [h4, sub_whole, h5]
  simp
  omega

theorem word_all {bs : List UInt8} (h : Tx.wordB bs = true) : Tx.all bs = .ok [(⟨1, 0, bs⟩, 0)] := by
  have hh := h
  unfold Tx.wordB Tx.words at hh
  simp at hh
  have key : 0 < bs.length ∧ Tx.letterB (Tx.B bs 0) = true ∧ Tx.upTo Tx.innerB bs 0 = bs.length := by
    clear h
    rcases hh with rfl | rfl | rfl | rfl | rfl | rfl | rfl | rfl | rfl | rfl | rfl | rfl | rfl | rfl | rfl | rfl | rfl | rfl | rfl | rfl | rfl | rfl | rfl <;> exact ⟨by decide, by decide, by decide⟩
  refine all_one key.1 key.2.1 key.2.2 _ ?_
  unfold Tx.oneWord
  rw [key.2.2, sub_whole, h]
  simp

theorem one_kind {bs : List UInt8} {k j : Nat} {t : Tx.Tk} (h : Tx.one bs k = .ok (t, j)) :
    (t.kind = 2 → Tx.letterB (Tx.B bs k) = true ∧ t.s = Tx.sub bs k (Tx.upTo Tx.innerB bs k) ∧ Tx.wordB t.s = false ∧ t.s.length ≤ 32) ∧ (t.kind = 1 → Tx.wordB t.s = true) := by
  unfold Tx.one at h
  by_cases h1 : Tx.letterB (Tx.B bs k) = true
  · rw [if_pos h1] at h
    unfold Tx.oneWord at h
    split at h
    · rename_i hw
      cases h
      exact ⟨fun e => by simp at e, fun _ => hw⟩
    · rename_i hw
      split at h
      · cases h
      · rename_i hl
        cases h
        exact ⟨fun _ => ⟨h1, rfl, by simpa using hw, by dsimp only; omega⟩, fun e => by simp at e⟩
  · rw [if_neg h1] at h
    unfold Tx.oneNum Tx.oneText Tx.oneMark at h
    repeat' split at h
    all_goals first
      | (cases h; exact ⟨fun e => by simp at e, fun e => by simp at e⟩)
      | cases h

theorem alone_same {bs : List UInt8} {t : Tx.Tk} {k : Nat} (h : Tx.all bs = .ok [(t, k)]) (hs : t.s = bs) : nameB bs = (t.kind == 2) ∧ Tx.wordB bs = (t.kind == 1) := by
  obtain ⟨hk, j, ho⟩ := toks_mem bs _ _ _ h (t, k) (by simp)
  obtain ⟨o2, o1⟩ := one_kind ho
  simp only at hk ho
  refine ⟨?_, ?_⟩
  · cases hn : nameB bs
    · by_cases e : t.kind = 2
      · exfalso
        obtain ⟨a1, a2, a3, a4⟩ := o2 e
        have hup := Tx.upTo_len Tx.innerB (Nat.le_of_lt hk)
        have hl := Tx.sub_length (bs := bs) (Tx.upTo_le Tx.innerB bs k) hup
        rw [← a2, hs] at hl
        obtain rfl : k = 0 := by omega
        have : nameB bs = !Tx.wordB bs := nameB_is (by omega) (by rw [← hs]; exact a4) a1 (by omega)
        rw [hs] at a3
        rw [a3, hn] at this
        cases this
      · simp [e]
    · rw [name_all hn] at h
      cases h
      rfl
  · cases hn : Tx.wordB bs
    · by_cases e : t.kind = 1
      · have := o1 e
        rw [hs, hn] at this
        cases this
      · simp [e]
    · rw [word_all hn] at h
      cases h
      rfl
theorem alone_not {bs : List UInt8} (h : ∀ t k, Tx.all bs = .ok [(t, k)] → t.s ≠ bs) : nameB bs = false ∧ Tx.wordB bs = false := by
  refine ⟨?_, ?_⟩
  · cases hn : nameB bs
    · rfl
    · exact absurd rfl (h _ _ (name_all hn))
  · cases hn : Tx.wordB bs
    · rfl
    · exact absurd rfl (h _ _ (word_all hn))
end Go.Proofs.YtjddbiabkobfoaaDoor
