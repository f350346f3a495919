/- Plain facts: a token that was cut out of a source is read again wherever it is put, with a blank or nothing behind it. Nothing of the program is named here. -/
import Derived.Test.YtjddbiabkobfoaaDoorCutSpec
import Derived.Test.YtjddbiabkobfoaaDoorRefTk
import Derived.Test.YtjddbiabkobfoaaDoorRefPlain
namespace Go.Proofs.YtjddbiabkobfoaaDoor
namespace Tx

/-- The same bytes at two places, and a blank or nothing behind the second. -/
structure Same (bs : List UInt8) (k : Nat) (cs : List UInt8) (q n : Nat) : Prop where
  eq : sub cs q (q + n) = sub bs k (k + n)
  len : q + n ≤ cs.length
  len' : k + n ≤ bs.length
  stop : q + n < cs.length → blankB (B cs (q + n)) = true
theorem Same.at {bs cs : List UInt8} {k q n i : Nat} (h : Same bs k cs q n) (hi : i < n) : B cs (q + i) = B bs (k + i) := by
  have h1 : i < (sub cs q (q + n)).length := by rw [sub_length (by omega) h.len]; omega
  have h2 : i < (sub bs k (k + n)).length := by rw [sub_length (by omega) h.len']; omega
  have e1 := sub_get h1
  have e2 := sub_get h2
  rw [← e1, ← e2]
  congr 2
  simp only [h.eq]
theorem blank_inner {c : Int} (h : blankB c = true) : innerB c = false := by
  unfold blankB at h
  simp at h
  rcases h with ((rfl | rfl) | rfl) | rfl <;> decide
theorem upTo_eq {p : Int → Bool} {cs : List UInt8} {q : Nat} : ∀ n, (∀ i, i < n → p (B cs (q + i)) = true) → q + n ≤ cs.length → (q + n < cs.length → p (B cs (q + n)) = false) → upTo p cs q = q + n := by
  intro n
  induction n generalizing q with
  | zero =>
    intro _ hl hs
    by_cases h : q < cs.length
    · exact upTo_out h (hs h)
    · exact upTo_end (by omega)
  | succ n ih =>
    intro ha hl hs
    have h0 : p (B cs q) = true := by simpa using ha 0 (by omega)
    rw [upTo_in (by omega) h0, ih (q := q + 1) (fun i hi => by rw [show q + 1 + i = q + (i + 1) by omega]; exact ha (i + 1) (by omega)) (by omega) (fun h => by rw [show q + 1 + n = q + (n + 1) by omega]; exact hs (by omega))]
    omega
theorem Same.inner {bs cs : List UInt8} {k q n : Nat} (h : Same bs k cs q n) (hk : upTo innerB bs k = k + n) : upTo innerB cs q = q + n :=
  upTo_eq n (fun i hi => by rw [h.at hi]; exact (upTo_all innerB bs k (k + i) (by omega) (by omega)).1) h.len (fun hl => blank_inner (h.stop hl))
theorem Same.word {bs cs : List UInt8} {k q n : Nat} {t : Tk} (h : Same bs k cs q n) (ho : oneWord bs k = .ok (t, k + n)) : oneWord cs q = .ok (t, q + n) := by
  have hu : upTo innerB bs k = k + n := by
    unfold oneWord at ho
    split at ho
    · exact (Prod.mk.inj (Except.ok.inj ho)).2
    · split at ho
      · cases ho
      · exact (Prod.mk.inj (Except.ok.inj ho)).2
  have hc := h.inner hu
  unfold oneWord at ho ⊢
  rw [hu] at ho
  rw [hc, h.eq]
  split at ho
  · rename_i e; rw [if_pos e]; cases ho; rfl
  · rename_i e
    rw [if_neg e]
    split at ho
    · cases ho
    · rename_i e2; rw [if_neg e2]; cases ho; rfl
theorem Same.num {bs cs : List UInt8} {k q n : Nat} {t : Tk} (h : Same bs k cs q n) (hn : 0 < n) (ho : oneNum bs k = .ok (t, k + n)) : oneNum cs q = .ok (t, q + n) := by
  have hb : B cs q = B bs k := h.at (i := 0) hn
  unfold oneNum at ho
  by_cases h48 : (B bs k == 48) = true ∧ k + 1 < upTo innerB bs k
  · rw [if_pos h48] at ho; cases ho
  · rw [if_neg h48] at ho
    cases hv : numOf (sub bs k (upTo innerB bs k)) with
    | none => rw [hv] at ho; cases ho
    | some v =>
      rw [hv] at ho
      have hu : upTo innerB bs k = k + n := (Prod.mk.inj (Except.ok.inj ho)).2
      rw [hu] at ho
      have hc := h.inner hu
      rw [hu] at h48 hv
      unfold oneNum
      rw [hc, hb, if_neg (fun e => h48 ⟨e.1, by omega⟩), h.eq, hv]
      cases ho
      rfl
theorem txt_far (bs cs : List UInt8) : ∀ (f f' k q : Nat) (acc s : List UInt8) (j : Nat), k ≤ bs.length → txt bs f k acc = some (s, j) → (∀ i, k + i < j → B cs (q + i) = B bs (k + i)) → q + (j - k) ≤ cs.length → cs.length - q < f' → txt cs f' q acc = some (s, q + (j - k))
  | 0, f', k, q, acc, s, j => fun _ h => by simp [txt] at h
  | f + 1, f', k, q, acc, s, j => fun hkl h hs hl hf => by
    obtain ⟨f', rfl⟩ : ∃ e, f' = e + 1 := ⟨f' - 1, by omega⟩
    have hc := txt_clean bs _ k acc s j hkl h
    have hq : q < cs.length := by omega
    have hb : B cs q = B bs k := hs 0 (by omega)
    unfold txt at h ⊢
    rw [if_pos hq, hb]
    by_cases hk : k < bs.length
    · rw [if_pos hk] at h
      by_cases h34 : (B bs k == 34) = true
      · rw [if_pos h34] at h ⊢
        simp at h
        obtain ⟨rfl, rfl⟩ := h
        congr 2
        omega
      · rw [if_neg h34] at h ⊢
        by_cases hg : ((txb bs k).2.1 && !(acc.length == 64)) = true
        · rw [if_pos hg] at h
          have hlt := txb_lt bs k hk
          have hc2 := txt_clean bs _ _ _ s j hlt.2 h
          have hx : txb cs q = ((txb bs k).1, (txb bs k).2.1, q + ((txb bs k).2.2 - k)) := by
            unfold txb
            rw [hb]
            by_cases h92 : (B bs k == 92) = true
            · rw [if_pos h92, if_pos h92]
              by_cases hk1 : k + 1 < bs.length
              · have h1 : (txb bs k).2.2 = k + 2 := by
                  unfold txb; rw [if_pos h92, if_pos hk1]; split <;> rfl
                have hb1 : B cs (q + 1) = B bs (k + 1) := hs 1 (by omega)
                rw [if_pos hk1, if_pos (show q + 1 < cs.length by omega), hb1]
                by_cases h110 : (B bs (k + 1) == 110) = true
                · rw [if_pos h110]
                  rw [if_pos h110]
                  refine Prod.ext rfl (Prod.ext rfl ?_); simp
                · rw [if_neg h110]
                  rw [if_neg h110]
                  refine Prod.ext rfl (Prod.ext rfl ?_); simp
              · exfalso
                have : (txb bs k).2.1 = false := by unfold txb; rw [if_pos h92, if_neg hk1]
                rw [this] at hg
                simp at hg
            · rw [if_neg h92, if_neg h92]
              refine Prod.ext rfl (Prod.ext rfl ?_); simp
          rw [hx]
          simp only []
          rw [if_pos hg]
          have := txt_far bs cs f f' (txb bs k).2.2 (q + ((txb bs k).2.2 - k)) _ s j hlt.2 h (fun i hi => by
            rw [show q + ((txb bs k).2.2 - k) + i = q + ((txb bs k).2.2 - k + i) by omega, hs _ (by omega)]
            congr 1; omega) (by omega) (by omega)
          rw [this]
          congr 2
          omega
        · rw [if_neg hg] at h; cases h
    · rw [if_neg hk] at h; cases h
theorem Same.text {bs cs : List UInt8} {k q n : Nat} {t : Tk} (h : Same bs k cs q n) (hk : k < bs.length) (ho : oneText bs k = .ok (t, k + n)) : oneText cs q = .ok (t, q + n) := by
  unfold oneText at ho
  cases hx : textAt bs k with
  | none => rw [hx] at ho; cases ho
  | some r =>
    obtain ⟨s, j⟩ := r
    rw [hx] at ho
    simp at ho
    obtain ⟨rfl, rfl⟩ := ho
    have hc := txt_clean bs _ (k + 1) [] s _ (by omega) hx
    refine oneText_some ?_
    have := txt_far bs cs _ (cs.length + 1) (k + 1) (q + 1) [] s (k + n) (by omega) hx (fun i hi => by
      have := h.at (i := i + 1) (by omega)
      rw [show q + 1 + i = q + (i + 1) by omega, show k + 1 + i = k + (i + 1) by omega]; exact this) (by have := h.len; omega) (by omega)
    unfold textAt
    rw [this]
    congr 2
    omega
theorem Same.mark {bs cs : List UInt8} {k q n : Nat} {t : Tk} (h : Same bs k cs q n) (hn : 0 < n) (ho : oneMark bs k = .ok (t, k + n)) : oneMark cs q = .ok (t, q + n) := by
  have hb : B cs q = B bs k := h.at (i := 0) hn
  unfold oneMark at ho
  by_cases h2 : k + 2 ≤ bs.length ∧ longB (sub bs k (k + 2)) = true
  · rw [if_pos h2] at ho
    simp at ho
    obtain ⟨rfl, hn2⟩ := ho
    obtain rfl : n = 2 := by omega
    unfold oneMark
    rw [h.eq, if_pos ⟨h.len, h2.2⟩]
  · rw [if_neg h2] at ho
    by_cases hs : shortB (B bs k) = true
    · rw [if_pos hs] at ho
      simp at ho
      obtain ⟨rfl, hn1⟩ := ho
      obtain rfl : n = 1 := by omega
      have h2' : ¬ (q + 2 ≤ cs.length ∧ longB (sub cs q (q + 2)) = true) := by
        rintro ⟨e1, e2⟩
        have hbl := h.stop (by omega)
        obtain ⟨c, hc, _⟩ := sub_cons (bs := cs) (i := q) (j := q + 2) (by omega) e1
        obtain ⟨c', hc', hcB'⟩ := sub_cons (bs := cs) (i := q + 1) (j := q + 2) (by omega) e1
        have h0 : sub cs (q + 2) (q + 2) = [] := by unfold sub; simp
        rw [hc, hc', show q + 1 + 1 = q + 2 by omega, h0] at e2
        rw [← hcB'] at hbl
        unfold longB longs at e2
        simp at e2
        rcases e2 with e | e | e | e | e <;> (rw [e.2] at hbl; exact absurd hbl (by decide))
      unfold oneMark
      rw [if_neg h2', hb, if_pos hs, h.eq]
    · rw [if_neg hs] at ho; cases ho
/-- A token is read again wherever its bytes are put. -/
theorem Same.one {bs cs : List UInt8} {k q n : Nat} {t : Tk} (h : Same bs k cs q n) (hk : k < bs.length) (ho : one bs k = .ok (t, k + n)) : one cs q = .ok (t, q + n) := by
  have hn : 0 < n := by have := (one_ok hk ho).1; omega
  have hb : B cs q = B bs k := h.at (i := 0) hn
  unfold Tx.one at ho ⊢
  rw [hb]
  by_cases h1 : letterB (B bs k) = true
  · rw [if_pos h1] at ho ⊢; exact h.word ho
  · rw [if_neg h1] at ho ⊢
    by_cases h2 : digitB (B bs k) = true
    · rw [if_pos h2] at ho ⊢; exact h.num hn ho
    · rw [if_neg h2] at ho ⊢
      by_cases h3 : (B bs k == 34) = true
      · rw [if_pos h3] at ho ⊢; exact h.text hk ho
      · rw [if_neg h3] at ho ⊢; exact h.mark hn ho
end Tx
end Go.Proofs.YtjddbiabkobfoaaDoor
