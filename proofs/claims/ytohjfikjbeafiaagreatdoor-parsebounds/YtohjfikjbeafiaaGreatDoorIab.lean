/- Which tokens there are: names, numbers, texts as they may be. -/
import Derived.Test.YtohjfikjbeafiaaGreatDoorGaz
import Derived.Test.YtohjfikjbeafiaaGreatDoorIaa
namespace Go.Proofs.YtohjfikjbeafiaaGreatDoor.T1
namespace Tx
theorem sub_cons {bs : List UInt8} {i j : Nat} (h1 : i < j) (h2 : j ≤ bs.length) : ∃ c, sub bs i j = c :: sub bs (i + 1) j ∧ (c.toNat : Int) = B bs i := by
  obtain ⟨c, hd⟩ : ∃ c, bs.drop i = c :: bs.drop (i + 1) := ⟨bs[i], List.drop_eq_getElem_cons (by omega)⟩
  refine ⟨c, ?_, ?_⟩
  · unfold sub
    rw [hd, show j - i = (j - (i + 1)) + 1 from by omega, List.take_succ_cons]
  · unfold B
    have : bs[i]? = some c := by
      have := congrArg (fun l => l[0]?) hd
      simpa using this
    rw [this]
    rfl
theorem sub_split {bs : List UInt8} {i m j : Nat} (h1 : i ≤ m) (h2 : m ≤ j) : sub bs i j = sub bs i m ++ sub bs m j := by
  unfold sub
  have e : bs.drop m = (bs.drop i).drop (m - i) := by rw [List.drop_drop]; congr 1; omega
  rw [e, show j - i = (m - i) + (j - m) from by omega, List.take_add]

/-- The digits of a number, without zeros ahead. -/
structure Dec (v : Int) (p : List UInt8) : Prop where
  digs : digs p = true
  ne : p ≠ []
  lead : p = [48] ∨ ∀ c r, p = c :: r → c.toNat ≠ 48
  val : v = (vl 0 p : Int)
  max : vl 0 p ≤ 9223372036854775807
/-- What a token is written as. -/
def SaidOf (t : Tk) (p : List UInt8) : Prop := (t.kind = 4 ∧ quoted t.s = some p) ∨ (t.kind = 3 ∧ Dec t.n p) ∨ ((t.kind == 4) = false ∧ (t.kind == 3) = false ∧ t.s = p)

theorem esc_seen {c : Int} (h34 : (c == 34) = false) (h92 : (c == 92) = false) (h : seenB c = true) : esc c = some [byteOf c] := by
  unfold esc
  have h10 : (c == 10) = false := by
    unfold seenB at h
    simp at h ⊢
    omega
  simp [h10, h34, h92, h]
theorem sub_next {bs : List UInt8} {i j : Nat} (h1 : i < j) (h2 : j ≤ bs.length) : sub bs i j = byteOf (B bs i) :: sub bs (i + 1) j := by
  obtain ⟨c, hc, hB⟩ := sub_cons h1 h2
  rw [hc, ← hB, byteOf_nat]
theorem txt_said (bs : List UInt8) : ∀ (f k : Nat) (acc s : List UInt8) (j : Nat), k ≤ bs.length → acc.length ≤ 64 → txt bs f k acc = some (s, j) → ∃ s', s = acc ++ s' ∧ escAll s' = some (sub bs k (j - 1)) ∧ B bs (j - 1) = 34 ∧ s.length ≤ 64
  | 0, k, acc, s, j => fun _ _ h => by simp [txt] at h
  | f + 1, k, acc, s, j => fun hkl ha h => by
    have hc := txt_clean bs _ k acc s j hkl h
    unfold txt at h
    by_cases hk : k < bs.length
    · rw [if_pos hk] at h
      by_cases h34 : (B bs k == 34) = true
      · rw [if_pos h34] at h
        simp at h
        obtain ⟨rfl, rfl⟩ := h
        exact ⟨[], by simp, by unfold sub; simp [escAll], by simpa using h34, ha⟩
      · rw [if_neg h34] at h
        by_cases hg : ((txb bs k).2.1 && !(acc.length == 64)) = true
        · rw [if_pos hg] at h
          have h34' : (B bs k == 34) = false := by simpa using h34
          simp at hg
          have hlt := txb_lt bs k hk
          have hc2 := txt_clean bs _ _ _ s j hlt.2 h
          have hbd := txb_bd bs k
          obtain ⟨s', e1, e2, e3, e4⟩ := txt_said bs f _ _ s j hlt.2 (by simp; omega) h
          refine ⟨byteOf (txb bs k).1 :: s', by rw [e1]; simp, ?_, e3, e4⟩
          have he : esc (txb bs k).1 = some (sub bs k (txb bs k).2.2) := by
            have hg1 := hg.1
            unfold txb at hg1 ⊢
            by_cases h92 : (B bs k == 92) = true
            · rw [if_pos h92] at hg1 ⊢
              have hb92 : B bs k = 92 := by simpa using h92
              by_cases hk1 : k + 1 < bs.length
              · rw [if_pos hk1] at hg1 ⊢
                have hsub : sub bs k (k + 2) = [92, byteOf (B bs (k + 1))] := by
                  rw [sub_next (by omega) (by omega), sub_next (by omega) (by omega), hb92]
                  have : sub bs (k + 1 + 1) (k + 2) = [] := by unfold sub; simp
                  rw [this]; rfl
                by_cases h110 : (B bs (k + 1) == 110) = true
                · rw [if_pos h110] at hg1 ⊢
                  simp only []
                  rw [hsub, show B bs (k + 1) = 110 by simpa using h110]
                  rfl
                · rw [if_neg h110] at hg1 ⊢
                  simp only [] at hg1 ⊢
                  rw [hsub]
                  unfold esc
                  simp at hg1
                  rcases hg1 with e | e <;> (rw [e]; rfl)
              · rw [if_neg hk1] at hg1; simp at hg1
            · rw [if_neg h92] at hg1 ⊢
              simp only [] at hg1 ⊢
              rw [esc_seen h34' (by simpa using h92) hg1, sub_next (by omega) (by omega)]
              unfold sub; simp
          rw [escAll, byteOf_toNat hbd, he]
          simp only [e2]
          rw [← sub_split (by omega) (by omega)]
        · rw [if_neg hg] at h; cases h
    · rw [if_neg hk] at h; cases h
theorem quoted_of {s e : List UInt8} (h : escAll s = some e) (hl : s.length ≤ 64) : quoted s = some ([34] ++ e ++ [34]) := by
  unfold quoted
  rw [if_neg (by omega), quo_esc s s.length 0 [34] (by omega), List.drop_zero, h]
/-- What a token is written as is what it was cut out of. -/
theorem said_of {bs : List UInt8} {k j : Nat} {t : Tk} (hk : k < bs.length) (h : one bs k = .ok (t, j)) : SaidOf t (sub bs k j) := by
  have hj := one_ok hk h
  unfold one at h
  by_cases h1 : letterB (B bs k) = true
  · rw [if_pos h1] at h
    right; right
    unfold oneWord at h
    split at h
    · cases h; exact ⟨rfl, rfl, rfl⟩
    · split at h
      · cases h
      · cases h; exact ⟨rfl, rfl, rfl⟩
  · rw [if_neg h1] at h
    by_cases h2 : digitB (B bs k) = true
    · rw [if_pos h2] at h
      right; left
      unfold oneNum at h
      by_cases h48 : (B bs k == 48) = true ∧ k + 1 < upTo innerB bs k
      · rw [if_pos h48] at h; cases h
      · rw [if_neg h48] at h
        cases hv : numOf (sub bs k (upTo innerB bs k)) with
        | none => rw [hv] at h; cases h
        | some v =>
          rw [hv] at h
          cases h
          refine ⟨rfl, ?_⟩
          simp only []
          obtain ⟨c, hc, hcB⟩ := sub_cons hj.1 hj.2.1
          have hd : 48 ≤ c.toNat ∧ c.toNat ≤ 57 := by
            rw [← hcB] at h2
            unfold digitB at h2
            simp at h2
            omega
          have hz : c.toNat ≠ 48 ∨ sub bs (k + 1) (upTo innerB bs k) = [] := by
            by_cases e : c.toNat = 48
            · right
              have : ¬ k + 1 < upTo innerB bs k := fun e2 => h48 ⟨by rw [← hcB, e]; rfl, e2⟩
              unfold sub
              rw [show upTo innerB bs k - (k + 1) = 0 by omega]
              simp
            · exact .inl e
          rw [hc] at hv ⊢
          rw [num_worth c _ hd.1 hd.2 hz] at hv
          unfold worthF at hv
          split at hv
          · cases hv
          · split at hv
            · rename_i q
              cases hv
              refine ⟨q.1, by simp, ?_, rfl, q.2⟩
              rcases hz with e | e
              · right; intro c' r' e'; cases e'; exact e
              · by_cases e48 : c.toNat = 48
                · left; rw [e]; congr 1; exact UInt8.toNat_inj.1 e48
                · right; intro c' r' e'; cases e'; exact e48
            · cases hv
    · rw [if_neg h2] at h
      by_cases h3 : (B bs k == 34) = true
      · rw [if_pos h3] at h
        left
        unfold oneText at h
        cases hx : textAt bs k with
        | none => rw [hx] at h; cases h
        | some r =>
          obtain ⟨s, j'⟩ := r
          rw [hx] at h
          cases h
          refine ⟨rfl, ?_⟩
          simp only []
          obtain ⟨s', e1, e2, e3, e4⟩ := txt_said bs _ (k + 1) [] s _ (by omega) (by simp) hx
          have hc := txt_clean bs _ (k + 1) [] s _ (by omega) hx
          simp at e1
          subst e1
          rw [quoted_of e2 e4]
          congr 1
          have hb : B bs k = 34 := by simpa using h3
          rw [sub_split (bs := bs) (i := k) (m := k + 1) (by omega) (by omega), sub_split (bs := bs) (i := k + 1) (m := j - 1) (j := j) (by omega) (by omega)]
          have a1 : sub bs k (k + 1) = [34] := by rw [sub_next (by omega) (by omega), hb]; unfold sub; simp; rfl
          have a2 : sub bs (j - 1) j = [34] := by rw [sub_next (by omega) (by omega), e3]; unfold sub; rw [show j - (j - 1 + 1) = 0 by omega]; simp; rfl
          rw [a1, a2]
          simp
      · rw [if_neg h3] at h
        right; right
        unfold oneMark at h
        split at h
        · cases h; exact ⟨rfl, rfl, rfl⟩
        · split at h
          · cases h; exact ⟨rfl, rfl, rfl⟩
          · cases h

end Tx
end Go.Proofs.YtohjfikjbeafiaaGreatDoor.T1
