/- Plain facts about quoted texts: how a text is written as a token, and that it is read as just this text. -/
import Derived.Test.YtohjfikjbeafiaaGreatDoorGac
namespace Go.Proofs.YtohjfikjbeafiaaGreatDoor.T1
namespace Tx

/-- How one byte of a text is written; none: it may not be. -/
def esc (c : Int) : Option (List UInt8) :=
  if c == 10 then some [92, 110] else if c == 34 || c == 92 then some [92, byteOf c] else if seenB c then some [byteOf c] else none
def escAll : List UInt8 → Option (List UInt8)
  | [] => some []
  | c :: r => match esc (c.toNat : Int) with
    | none => none
    | some e => match escAll r with
      | none => none
      | some q => some (e ++ q)
/-- What is written from a place on, behind what was written before. -/
def quo (bs : List UInt8) : Nat → Nat → List UInt8 → Option (List UInt8)
  | 0, _, acc => some (acc ++ [34])
  | f + 1, k, acc => match esc (B bs k) with
    | none => none
    | some e => quo bs f (k + 1) (acc ++ e)
def quoted (bs : List UInt8) : Option (List UInt8) := if 64 < bs.length then none else quo bs bs.length 0 [34]

theorem esc_len {c : Int} {e : List UInt8} (h : esc c = some e) : 0 < e.length ∧ e.length ≤ 2 := by
  unfold esc at h
  repeat' split at h
  all_goals first
    | (cases h; simp; done)
    | cases h

theorem drop_B {bs : List UInt8} {k : Nat} (h : k < bs.length) : ∃ c, bs.drop k = c :: bs.drop (k + 1) ∧ (c.toNat : Int) = B bs k := by
  refine ⟨bs[k], List.drop_eq_getElem_cons h, ?_⟩
  unfold B
  rw [List.getElem?_eq_getElem h]
  rfl

theorem quo_esc (bs : List UInt8) : ∀ (f k : Nat) (acc : List UInt8), k + f = bs.length → quo bs f k acc = (match escAll (bs.drop k) with | none => none | some e => some (acc ++ e ++ [34]))
  | 0, k, acc => fun h => by
    rw [List.drop_eq_nil_of_le (by omega)]
    simp [quo, escAll]
  | f + 1, k, acc => fun h => by
    obtain ⟨c, hd, hc⟩ := drop_B (show k < bs.length by omega)
    rw [hd]
    unfold quo escAll
    rw [hc]
    cases he : esc (B bs k) with
    | none => rfl
    | some e =>
      simp only
      rw [quo_esc bs f (k + 1) (acc ++ e) (by omega)]
      cases escAll (bs.drop (k + 1)) with
      | none => rfl
      | some q => simp

theorem B_mid (pre : List UInt8) (c : UInt8) (r : List UInt8) : B (pre ++ c :: r) pre.length = (c.toNat : Int) := by
  unfold B
  rw [List.getElem?_append_right (Nat.le_refl _)]
  simp

theorem B_mid1 (pre : List UInt8) (c d : UInt8) (r : List UInt8) : B (pre ++ c :: d :: r) (pre.length + 1) = (d.toNat : Int) := by
  unfold B
  rw [List.getElem?_append_right (by omega)]
  simp

theorem byteOf_nat (c : UInt8) : byteOf (c.toNat : Int) = c := by
  unfold byteOf
  simp

/-- What is written of one byte is read as this byte. -/
theorem txb_esc (c : UInt8) (e : List UInt8) (h : esc (c.toNat : Int) = some e) (pre r : List UInt8) :
    (B (pre ++ e ++ r) pre.length == 34) = false ∧ txb (pre ++ e ++ r) pre.length = ((c.toNat : Int), true, pre.length + e.length) := by
  unfold esc at h
  by_cases h10 : ((c.toNat : Int) == 10) = true
  · rw [if_pos h10] at h
    cases h
    have e10 : (c.toNat : Int) = 10 := by simpa using h10
    have b0 : B (pre ++ [92, 110] ++ r) pre.length = 92 := by rw [List.append_assoc]; exact B_mid pre 92 (110 :: r)
    have b1 : B (pre ++ [92, 110] ++ r) (pre.length + 1) = 110 := by rw [List.append_assoc]; exact B_mid1 pre 92 110 r
    refine ⟨by rw [b0]; rfl, ?_⟩
    unfold txb
    rw [b0, b1, if_pos (show ((92 : Int) == 92) = true from rfl), if_pos (by simp), if_pos (show ((110 : Int) == 110) = true from rfl), e10]
    rfl
  · rw [if_neg h10] at h
    by_cases h34 : ((c.toNat : Int) == 34 || (c.toNat : Int) == 92) = true
    · rw [if_pos h34] at h
      cases h
      rw [byteOf_nat]
      have b0 : B (pre ++ [92, c] ++ r) pre.length = 92 := by rw [List.append_assoc]; exact B_mid pre 92 (c :: r)
      have b1 : B (pre ++ [92, c] ++ r) (pre.length + 1) = (c.toNat : Int) := by rw [List.append_assoc]; exact B_mid1 pre 92 c r
      refine ⟨by rw [b0]; rfl, ?_⟩
      unfold txb
      have hn : ((c.toNat : Int) == 110) = false := by simp at h34 ⊢; omega
      rw [b0, b1, if_pos (show ((92 : Int) == 92) = true from rfl), if_pos (by simp), if_neg (by rw [hn]; exact Bool.false_ne_true), h34]
      rfl
    · rw [if_neg h34] at h
      by_cases hs : seenB (c.toNat : Int) = true
      · rw [if_pos hs] at h
        cases h
        rw [byteOf_nat]
        have b0 : B (pre ++ [c] ++ r) pre.length = (c.toNat : Int) := by rw [List.append_assoc]; exact B_mid pre c r
        have h34' : ((c.toNat : Int) == 34) = false ∧ ((c.toNat : Int) == 92) = false := by simpa using h34
        refine ⟨by rw [b0]; exact h34'.1, ?_⟩
        unfold txb
        rw [b0, if_neg (by rw [h34'.2]; exact Bool.false_ne_true), hs]
        rfl
      · rw [if_neg hs] at h
        cases h

theorem txt_esc : ∀ (s e pre acc : List UInt8) (f : Nat), escAll s = some e → acc.length + s.length ≤ 64 → e.length < f → txt (pre ++ e ++ [34]) f pre.length acc = some (acc ++ s, pre.length + e.length + 1)
  | [], e, pre, acc, f => fun h hl hf => by
    simp [escAll] at h
    subst h
    obtain ⟨f', rfl⟩ : ∃ f', f = f' + 1 := ⟨f - 1, by simp at hf; omega⟩
    have b0 : B (pre ++ [] ++ [34]) pre.length = 34 := by rw [List.append_nil]; exact B_mid pre 34 []
    unfold txt
    rw [if_pos (by simp), b0, if_pos (show ((34 : Int) == 34) = true from rfl)]
    simp
  | c :: s, e, pre, acc, f => fun h hl hf => by
    unfold escAll at h
    cases h1 : esc (c.toNat : Int) with
    | none => rw [h1] at h; cases h
    | some e1 =>
      rw [h1] at h
      cases h2 : escAll s with
      | none => rw [h2] at h; cases h
      | some e2 =>
        rw [h2] at h
        cases h
        obtain ⟨f', rfl⟩ : ∃ f', f = f' + 1 := ⟨f - 1, by omega⟩
        have hl1 := esc_len h1
        have hx := txb_esc c e1 h1 pre (e2 ++ [34])
        have eq : pre ++ (e1 ++ e2) ++ [34] = pre ++ e1 ++ (e2 ++ [34]) := by simp
        simp at hl hf
        unfold txt
        rw [eq, if_pos (by simp; omega), if_neg (by rw [hx.1]; exact Bool.false_ne_true), hx.2]
        rw [if_pos (by simp; omega), byteOf_nat]
        have ih := txt_esc s e2 (pre ++ e1) (acc ++ [c]) f' h2 (by simp; omega) (by omega)
        rw [List.length_append] at ih
        have eq2 : pre ++ e1 ++ (e2 ++ [34]) = pre ++ e1 ++ e2 ++ [34] := by simp
        simp only
        rw [eq2, ih]
        simp
        omega

theorem escAll_len : ∀ (s e : List UInt8), escAll s = some e → e.length ≤ 2 * s.length
  | [], e => fun h => by simp [escAll] at h; subst h; simp
  | c :: s, e => fun h => by
    unfold escAll at h
    cases h1 : esc (c.toNat : Int) with
    | none => rw [h1] at h; cases h
    | some e1 =>
      rw [h1] at h
      cases h2 : escAll s with
      | none => rw [h2] at h; cases h
      | some e2 =>
        rw [h2] at h
        cases h
        have a1 := esc_len h1
        have a2 := escAll_len s e2 h2
        simp
        omega

/-- The token of a text is read as just this text. -/
theorem all_quoted {s q : List UInt8} (h : quoted s = some q) : Tx.all q = .ok [(⟨4, 0, s⟩, 0)] ∧ q.length ≤ 130 := by
  unfold quoted at h
  by_cases h64 : 64 < s.length
  · rw [if_pos h64] at h; cases h
  · rw [if_neg h64, quo_esc s s.length 0 [34] (by omega), List.drop_zero] at h
    cases he : escAll s with
    | none => rw [he] at h; cases h
    | some e =>
      rw [he] at h
      cases h
      have hl := escAll_len s e he
      refine ⟨?_, by simp; omega⟩
      have ht := txt_esc s e [34] [] (([34] ++ e ++ [34] : List UInt8).length + 1) he (by simp; omega) (by simp; omega)
      have b0 : B ([34] ++ e ++ [34]) 0 = 34 := by rw [List.append_assoc]; exact B_mid [] 34 (e ++ [34])
      generalize hq : ([34] ++ e ++ [34] : List UInt8) = q at *
      have hql : q.length = e.length + 2 := by rw [← hq]; simp
      have hone : one q 0 = .ok (⟨4, 0, s⟩, q.length) := by
        unfold one
        rw [b0]
        have : oneText q 0 = .ok (⟨4, 0, s⟩, q.length) := oneText_some (by
          unfold textAt
          refine Eq.trans ht ?_
          simp
          omega)
        rw [← this]
        rfl
      have h1 := toks_ok (bs := q) (f := q.length) (k := 0) [] (by omega) (by rw [b0]; rfl) (by rw [b0]; rfl) hone
      rw [ahead_nil] at h1
      unfold all
      rw [h1]
      have h2 : toks q q.length q.length = .ok [] := by
        obtain ⟨n, hn⟩ : ∃ n, q.length = n + 1 := ⟨q.length - 1, by omega⟩
        have := toks_end (bs := q) (f := n) (k := q.length) (by omega)
        rwa [← hn] at this
      rw [h2]
      rfl
end Tx
end Go.Proofs.YtohjfikjbeafiaaGreatDoor.T1
