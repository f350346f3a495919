/- The tokens of a source, by the plain functions of the text before: how they follow one another. -/
import Derived.Test.YtjddbiabkobfoaaDoorSpec
namespace Go.Proofs.YtjddbiabkobfoaaDoor
namespace Tx

def toks (bs : List UInt8) : Nat → Nat → Except (Int × Nat) (List (Tk × Nat))
  | 0, _ => .ok []
  | f + 1, k =>
    if k < bs.length then
      if B bs k == 35 then toks bs f (upTo blankB bs (upTo notTen bs k))
      else if blankB (B bs k) then toks bs f (upTo blankB bs k)
      else match one bs k with
        | .error e => .error (e, k)
        | .ok (t, j) => match toks bs f j with
          | .error x => .error x
          | .ok l => .ok ((t, k) :: l)
    else .ok []
/-- What a whole source says. -/
def all (bs : List UInt8) : Except (Int × Nat) (List (Tk × Nat)) := toks bs (bs.length + 1) 0

/-- Tokens ahead of others. -/
def ahead (d : List (Tk × Nat)) (r : Except (Int × Nat) (List (Tk × Nat))) : Except (Int × Nat) (List (Tk × Nat)) :=
  match r with
  | .error x => .error x
  | .ok l => .ok (d ++ l)
theorem ahead_nil (r : Except (Int × Nat) (List (Tk × Nat))) : ahead [] r = r := by cases r <;> rfl

theorem toks_remark {bs : List UInt8} {f k : Nat} (hk : k < bs.length) (h : (B bs k == 35) = true) : toks bs (f + 1) k = toks bs f (upTo blankB bs (upTo notTen bs k)) := by simp [toks, hk, h]
theorem toks_blank {bs : List UInt8} {f k : Nat} (hk : k < bs.length) (h : (B bs k == 35) = false) (h2 : blankB (B bs k) = true) : toks bs (f + 1) k = toks bs f (upTo blankB bs k) := by simp [toks, hk, h, h2]
theorem toks_err {bs : List UInt8} {f k : Nat} {e : Int} (hk : k < bs.length) (h : (B bs k == 35) = false) (h2 : blankB (B bs k) = false) (h1 : one bs k = .error e) : toks bs (f + 1) k = .error (e, k) := by simp [toks, hk, h, h2, h1]
theorem toks_ok {bs : List UInt8} {f k j : Nat} {t : Tk} (d : List (Tk × Nat)) (hk : k < bs.length) (h : (B bs k == 35) = false) (h2 : blankB (B bs k) = false) (h1 : one bs k = .ok (t, j)) : ahead d (toks bs (f + 1) k) = ahead (d ++ [(t, k)]) (toks bs f j) := by
  simp [toks, hk, h, h2, h1]
  cases toks bs f j <;> simp [ahead]
theorem toks_end {bs : List UInt8} {f k : Nat} (hk : ¬ k < bs.length) : toks bs (f + 1) k = .ok [] := by simp [toks, hk]

theorem inner_not10 {c : Int} (h : innerB c = true) : (c == 10) = false := by
  unfold innerB letterB digitB at h
  simp at h ⊢
  omega
theorem upTo_inner_clean (bs : List UInt8) (k j : Nat) (h1 : k ≤ j) (h2 : j < upTo innerB bs k) : (B bs j == 10) = false := inner_not10 (upTo_all innerB bs k j h1 h2).1
theorem upTo_notTen_clean (bs : List UInt8) (k j : Nat) (h1 : k ≤ j) (h2 : j < upTo notTen bs k) : (B bs j == 10) = false := by
  have := (upTo_all notTen bs k j h1 h2).1
  simpa [notTen] using this

theorem upTo_lt {p : Int → Bool} {bs : List UInt8} {k : Nat} (hk : k < bs.length) (h : p (B bs k) = true) : k < upTo p bs k := by
  rw [upTo_in hk h]
  have := upTo_le p bs (k + 1)
  omega

/-- What stands for a byte of a text holds no byte 10. -/
theorem txb_clean {bs : List UInt8} {k : Nat} (h : (txb bs k).2.1 = true) : ∀ j, k ≤ j → j < (txb bs k).2.2 → (B bs j == 10) = false := by
  intro j h1 h2
  unfold txb at h h2
  by_cases c1 : (B bs k == 92) = true
  · rw [if_pos c1] at h h2
    by_cases c2 : k + 1 < bs.length
    · rw [if_pos c2] at h h2
      by_cases c3 : (B bs (k + 1) == 110) = true
      · rw [if_pos c3] at h2
        simp at h2 c1 c3
        rcases Nat.lt_or_ge k j with h3 | h3
        · obtain rfl : j = k + 1 := by omega
          simp [c3]
        · obtain rfl : j = k := by omega
          simp [c1]
      · rw [if_neg c3] at h h2
        simp at h h2 c1
        rcases Nat.lt_or_ge k j with h3 | h3
        · obtain rfl : j = k + 1 := by omega
          simp; omega
        · obtain rfl : j = k := by omega
          simp [c1]
    · rw [if_neg c2] at h
      simp at h
  · rw [if_neg c1] at h h2
    simp at h h2
    obtain rfl : j = k := by omega
    unfold seenB at h
    simp at h ⊢
    omega

theorem txt_clean (bs : List UInt8) : ∀ (f k : Nat) (acc s : List UInt8) (j : Nat), k ≤ bs.length → txt bs f k acc = some (s, j) → k < j ∧ j ≤ bs.length ∧ ∀ i, k ≤ i → i < j → (B bs i == 10) = false
  | 0, k, acc, s, j => fun _ h => by simp [txt] at h
  | f + 1, k, acc, s, j => fun hk h => by
    unfold txt at h
    by_cases h1 : k < bs.length
    · rw [if_pos h1] at h
      by_cases h2 : (B bs k == 34) = true
      · rw [if_pos h2] at h
        simp at h h2
        obtain ⟨rfl, rfl⟩ := h
        refine ⟨by omega, by omega, fun i a b => ?_⟩
        obtain rfl : i = k := by omega
        simp [h2]
      · rw [if_neg h2] at h
        by_cases h3 : ((txb bs k).2.1 && !(acc.length == 64)) = true
        · rw [if_pos h3] at h
          have hl := txb_lt bs k h1
          have ih := txt_clean bs f _ _ s j hl.2 h
          have h4 : (txb bs k).2.1 = true := by simp at h3; exact h3.1
          refine ⟨by omega, ih.2.1, fun i a b => ?_⟩
          rcases Nat.lt_or_ge i (txb bs k).2.2 with h5 | h5
          · exact txb_clean h4 i a h5
          · exact ih.2.2 i h5 b
        · rw [if_neg h3] at h
          cases h
    · rw [if_neg h1] at h
      cases h

theorem longB_clean {bs : List UInt8} {k : Nat} (h2 : k + 2 ≤ bs.length) (h : longB (sub bs k (k + 2)) = true) : (B bs k == 10) = false ∧ (B bs (k + 1) == 10) = false := by
  have hl := sub_length (bs := bs) (show k ≤ k + 2 by omega) h2
  have p0 : 0 < (sub bs k (k + 2)).length := by omega
  have p1 : 1 < (sub bs k (k + 2)).length := by omega
  have g0 : _ = B bs k := sub_get p0
  have g1 := sub_get p1
  rw [← g0, ← g1]
  generalize sub bs k (k + 2) = s at *
  unfold longB longs at h
  simp at h
  rcases h with rfl | rfl | rfl | rfl | rfl <;> simp
theorem shortB_clean {c : Int} (hc : 0 ≤ c ∧ c ≤ 255) (h : shortB c = true) : (c == 10) = false := by
  have e := byteOf_toNat hc
  rw [← e]
  unfold shortB shorts at h
  generalize byteOf c = x at *
  simp at h
  rcases h with rfl | rfl | rfl | rfl | rfl | rfl | rfl | rfl | rfl | rfl | rfl | rfl | rfl | rfl | rfl | rfl | rfl <;> decide

theorem digit_inner {c : Int} (h : digitB c = true) : innerB c = true := by simp [innerB, h]
theorem letter_inner {c : Int} (h : letterB c = true) : innerB c = true := by simp [innerB, h]

/-- A token ends behind its first byte, within the source, and holds no byte 10. -/
theorem one_ok {bs : List UInt8} {k j : Nat} {t : Tk} (hk : k < bs.length) (h : one bs k = .ok (t, j)) : k < j ∧ j ≤ bs.length ∧ ∀ i, k ≤ i → i < j → (B bs i == 10) = false := by
  unfold one at h
  by_cases h1 : letterB (B bs k) = true
  · rw [if_pos h1] at h
    unfold oneWord at h
    have hj : j = upTo innerB bs k := by
      split at h
      · cases h; rfl
      · split at h
        · cases h
        · cases h; rfl
    subst hj
    exact ⟨upTo_lt hk (letter_inner h1), upTo_len _ (by omega), fun i a b => upTo_inner_clean bs k i a b⟩
  · rw [if_neg h1] at h
    by_cases h2 : digitB (B bs k) = true
    · rw [if_pos h2] at h
      unfold oneNum at h
      have hj : j = upTo innerB bs k := by
        split at h
        · cases h
        · split at h
          · cases h; rfl
          · cases h
      subst hj
      exact ⟨upTo_lt hk (digit_inner h2), upTo_len _ (by omega), fun i a b => upTo_inner_clean bs k i a b⟩
    · rw [if_neg h2] at h
      by_cases h3 : (B bs k == 34) = true
      · rw [if_pos h3] at h
        unfold oneText at h
        cases hx : textAt bs k with
        | none => rw [hx] at h; cases h
        | some r =>
          obtain ⟨s, j'⟩ := r
          rw [hx] at h
          cases h
          have := txt_clean bs _ _ _ s j (by omega) hx
          refine ⟨by omega, this.2.1, fun i a b => ?_⟩
          rcases Nat.lt_or_ge k i with h5 | h5
          · exact this.2.2 i h5 b
          · obtain rfl : i = k := by omega
            simp at h3
            simp [h3]
      · rw [if_neg h3] at h
        unfold oneMark at h
        split at h
        · rename_i h5
          cases h
          have := longB_clean h5.1 h5.2
          refine ⟨by omega, h5.1, fun i a b => ?_⟩
          rcases Nat.lt_or_ge k i with h6 | h6
          · obtain rfl : i = k + 1 := by omega
            exact this.2
          · obtain rfl : i = k := by omega
            exact this.1
        · split at h
          · rename_i h5
            cases h
            refine ⟨by omega, by omega, fun i a b => ?_⟩
            obtain rfl : i = k := by omega
            exact shortB_clean (B_bd bs i) h5
          · cases h

/-- Why there is no token is told by a number that is not 0. -/
theorem one_err {bs : List UInt8} {k : Nat} {er : Int} (h : one bs k = .error er) : er = 11 ∨ er = 12 ∨ er = 13 ∨ er = 14 := by
  unfold one oneWord oneNum oneText oneMark at h
  repeat' split at h
  all_goals first
    | (cases h; simp; done)
    | cases h

/-- Line and beginning stay from one place to another, if no byte 10 stands between. -/
theorem lnst_upto {bs : List UInt8} {k j : Nat} (h : k ≤ j) (hc : ∀ i, k ≤ i → i < j → (B bs i == 10) = false) : lnTo bs j = lnTo bs k ∧ stTo bs j = stTo bs k := by
  have := lnst_same bs k (j - k) (fun i a b => hc i a (by omega))
  rwa [show k + (j - k) = j from by omega] at this
end Tx
end Go.Proofs.YtjddbiabkobfoaaDoor
