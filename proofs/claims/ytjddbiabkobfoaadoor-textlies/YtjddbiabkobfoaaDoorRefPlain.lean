/- Plain facts: the tokens from a place on, numbers, texts and marks as the document's own functions find them. Nothing of the program is named here. -/
import Derived.Test.YtjddbiabkobfoaaDoorToks
namespace Go.Proofs.YtjddbiabkobfoaaDoor
namespace Tx

/-- The tokens do not depend on the fuel, if there is enough. -/
theorem toks_fuel (bs : List UInt8) : ∀ (f g k : Nat), bs.length - k < f → bs.length - k < g → toks bs f k = toks bs g k := by
  intro f
  induction f with
  | zero => intro g k h; omega
  | succ f ih =>
    intro g k hf hg
    obtain ⟨g, rfl⟩ : ∃ g', g = g' + 1 := ⟨g - 1, by omega⟩
    by_cases hk : k < bs.length
    · cases h35 : (B bs k == 35) with
      | true =>
        rw [toks_remark hk h35, toks_remark hk h35]
        have h1 : k < upTo notTen bs k := upTo_lt hk (by unfold notTen; simp at h35; rw [h35]; rfl)
        have h2 := upTo_le blankB bs (upTo notTen bs k)
        exact ih _ _ (by omega) (by omega)
      | false =>
        cases hb : blankB (B bs k) with
        | true =>
          rw [toks_blank hk h35 hb, toks_blank hk h35 hb]
          have h1 : k < upTo blankB bs k := upTo_lt hk hb
          exact ih _ _ (by omega) (by omega)
        | false =>
          cases h1 : one bs k with
          | error e => rw [toks_err hk h35 hb h1, toks_err hk h35 hb h1]
          | ok x =>
            obtain ⟨t, j⟩ := x
            have hj := one_ok hk h1
            have e := ih g j (by omega) (by omega)
            have a1 := toks_ok (f := f) [] hk h35 hb h1
            have a2 := toks_ok (f := g) [] hk h35 hb h1
            rw [ahead_nil] at a1 a2
            rw [a1, a2, e]
    · rw [toks_end hk, toks_end hk]

/-- The tokens from a place on. -/
def tk (bs : List UInt8) (k : Nat) : Except (Int × Nat) (List (Tk × Nat)) := toks bs (bs.length - k + 1) k
theorem tk_all (bs : List UInt8) : all bs = tk bs 0 := toks_fuel bs _ _ 0 (by omega) (by omega)
theorem tk_end {bs : List UInt8} {k : Nat} (h : bs.length ≤ k) : tk bs k = .ok [] := toks_end (by omega)
theorem tk_err {bs : List UInt8} {k : Nat} {e : Int} (hk : k < bs.length) (h : (B bs k == 35) = false) (h2 : blankB (B bs k) = false) (h1 : one bs k = .error e) : tk bs k = .error (e, k) := toks_err hk h h2 h1
theorem tk_ok {bs : List UInt8} {k j : Nat} {t : Tk} (d : List (Tk × Nat)) (hk : k < bs.length) (h : (B bs k == 35) = false) (h2 : blankB (B bs k) = false) (h1 : one bs k = .ok (t, j)) : ahead d (tk bs k) = ahead (d ++ [(t, k)]) (tk bs j) := by
  have hj := one_ok hk h1
  unfold tk
  rw [toks_ok d hk h h2 h1, toks_fuel bs (bs.length - k) (bs.length - j + 1) j (by omega) (by omega)]
theorem tk_blanks (bs : List UInt8) : ∀ (d k : Nat), k + d = bs.length → tk bs k = tk bs (upTo blankB bs k) := by
  intro d
  induction d with
  | zero => intro k h; rw [upTo_end (by omega)]
  | succ d ih =>
    intro k h
    have hk : k < bs.length := by omega
    cases hb : blankB (B bs k) with
    | false => rw [upTo_out hk hb]
    | true =>
      have h35 : (B bs k == 35) = false := by
        cases h : (B bs k == 35) with
        | false => rfl
        | true => simp at h; rw [h] at hb; exact absurd hb (by decide)
      have h1 : k < upTo blankB bs k := upTo_lt hk hb
      unfold tk
      rw [toks_blank hk h35 hb]
      exact toks_fuel bs _ _ _ (by omega) (by omega)
theorem tk_blank {bs : List UInt8} {k : Nat} (hk : k < bs.length) (hb : blankB (B bs k) = true) : tk bs k = tk bs (k + 1) := by
  rw [tk_blanks bs (bs.length - k) k (by omega), upTo_in hk hb, ← tk_blanks bs (bs.length - (k + 1)) (k + 1) (by omega)]
theorem tk_remark {bs : List UInt8} {k : Nat} (hk : k < bs.length) (h : (B bs k == 35) = true) : tk bs k = tk bs (upTo notTen bs k) := by
  have h1 : k < upTo notTen bs k := upTo_lt hk (by unfold notTen; simp at h; rw [h]; rfl)
  have h2 := upTo_le blankB bs (upTo notTen bs k)
  have h3 := upTo_len notTen (bs := bs) (k := k) (by omega)
  rw [tk_blanks bs (bs.length - upTo notTen bs k) (upTo notTen bs k) (by omega)]
  unfold tk
  rw [toks_remark hk h]
  exact toks_fuel bs _ _ _ (by omega) (by omega)

/-- A text that may be of any length. -/
def qd (bs : List UInt8) : Nat → Nat → List UInt8 → Option (List UInt8 × Nat)
  | 0, _, _ => none
  | f + 1, k, acc =>
    if k < bs.length then
      if B bs k == 34 then some (acc, k + 1)
      else if (txb bs k).2.1 then qd bs f (txb bs k).2.2 (acc ++ [byteOf (txb bs k).1]) else none
    else none
theorem qd_len (bs : List UInt8) : ∀ (f k : Nat) (acc s : List UInt8) (j : Nat), qd bs f k acc = some (s, j) → acc.length ≤ s.length := by
  intro f
  induction f with
  | zero => intro k acc s j h; simp [qd] at h
  | succ f ih =>
    intro k acc s j h
    unfold qd at h
    split at h
    · split at h
      · simp at h; rw [h.1]; exact Nat.le_refl _
      · split at h
        · have := ih _ _ _ _ h
          simp at this
          omega
        · simp at h
    · simp at h
def cut64 (r : Option (List UInt8 × Nat)) : Option (List UInt8 × Nat) := match r with
  | some (s, j) => if s.length ≤ 64 then some (s, j) else none
  | none => none
theorem txt_qd (bs : List UInt8) : ∀ (f k : Nat) (acc : List UInt8), acc.length ≤ 64 → txt bs f k acc = cut64 (qd bs f k acc) := by
  intro f
  induction f with
  | zero => intro k acc _; rfl
  | succ f ih =>
    intro k acc ha
    unfold txt qd
    by_cases hk : k < bs.length
    · rw [if_pos hk, if_pos hk]
      cases hq : (B bs k == 34) with
      | true => simp [cut64, ha]
      | false =>
        simp only [Bool.false_eq_true, if_false]
        cases ht : (txb bs k).2.1 with
        | false => simp [cut64]
        | true =>
          simp only [Bool.true_and, if_true]
          by_cases h64 : acc.length = 64
          · rw [if_neg (by simp [h64])]
            cases hr : qd bs f (txb bs k).2.2 (acc ++ [byteOf (txb bs k).1]) with
            | none => rfl
            | some x =>
              obtain ⟨s, j⟩ := x
              have := qd_len bs _ _ _ _ _ hr
              simp at this
              rw [cut64, if_neg (by omega)]
          · rw [if_pos (by simpa using h64)]
            exact ih _ _ (by simp; omega)
    · rw [if_neg hk, if_neg hk]; rfl

/-- Digits alone, and what they say. -/
def digs (l : List UInt8) : Bool := l.all (fun c => decide (48 ≤ c.toNat) && decide (c.toNat ≤ 57))
def step10 (a : Nat) (c : UInt8) : Nat := a * 10 + (c.toNat - 48)
def vl (acc : Nat) (l : List UInt8) : Nat := l.foldl step10 acc
theorem vl_cons (acc : Nat) (c : UInt8) (r : List UInt8) : vl acc (c :: r) = vl (acc * 10 + (c.toNat - 48)) r := by
  unfold vl; rw [List.foldl_cons]; unfold step10; exact Eq.refl _
theorem vl_nil (acc : Nat) : vl acc [] = acc := by unfold vl; exact List.foldl_nil
theorem vl_ge (l : List UInt8) : ∀ acc : Nat, acc * 10 ^ l.length ≤ vl acc l := by
  induction l with
  | nil => intro acc; rw [vl_nil]; simp
  | cons c r ih =>
    intro acc
    have h := ih (acc * 10 + (c.toNat - 48))
    rw [vl_cons, List.length_cons, Nat.pow_succ]
    refine Nat.le_trans ?_ h
    rw [Nat.add_mul, Nat.mul_assoc, Nat.mul_comm 10]
    exact Nat.le_add_right _ _
theorem vl_le (l : List UInt8) : ∀ acc : Nat, acc ≤ vl acc l := by
  induction l with
  | nil => intro acc; rw [vl_nil]; exact Nat.le_refl _
  | cons c r ih => intro acc; rw [vl_cons]; have := ih (acc * 10 + (c.toNat - 48)); omega
theorem parseM (M : Nat) (hM : M = 18446744073709551615) (l : List UInt8) : ∀ (acc u : Nat), acc ≤ M → (Lib.parseUintM M acc l = .ok u ↔ digs l = true ∧ u = vl acc l ∧ vl acc l ≤ M) := by
  induction l with
  | nil =>
    intro acc u ha
    rw [vl_nil]
    simp only [Lib.parseUintM, digs, List.all_nil, true_and, Lib.NumEnd.ok.injEq]
    exact ⟨fun h => ⟨h.symm, ha⟩, fun h => h.1.symm⟩
  | cons c r ih =>
    intro acc u ha
    unfold Lib.parseUintM
    by_cases hc : 48 ≤ c.toNat ∧ c.toNat ≤ 57
    · rw [if_pos hc]
      have hd : digs (c :: r) = digs r := by simp [digs, hc.1, hc.2]
      have hv := vl_cons acc c r
      have hle := vl_le r (acc * 10 + (c.toNat - 48))
      rw [hd, hv]
      by_cases h1 : 1844674407370955162 ≤ acc
      · rw [if_pos h1]
        constructor
        · intro h; cases h
        · rintro ⟨_, _, h⟩; omega
      · rw [if_neg h1]
        by_cases h2 : M < acc * 10 + (c.toNat - 48)
        · rw [if_pos h2]
          constructor
          · intro h; cases h
          · rintro ⟨_, _, h⟩; omega
        · rw [if_neg h2]
          exact ih _ u (by omega)
    · rw [if_neg hc]
      constructor
      · intro h; cases h
      · rintro ⟨h, _⟩
        simp [digs] at h
        omega
/-- What the document's worth says of a text that begins with a digit. -/
def worthF (l : List UInt8) : Option Int :=
  if 19 < l.length then none else if digs l = true ∧ vl 0 l ≤ 9223372036854775807 then some (vl 0 l : Int) else none
theorem num_worth (c : UInt8) (r : List UInt8) (h0 : 48 ≤ c.toNat) (h1 : c.toNat ≤ 57) (hz : c.toNat ≠ 48 ∨ r = []) : numOf (c :: r) = worthF (c :: r) := by
  have hp : Lib.parseUintB 64 (c :: r) = Lib.parseUintM 18446744073709551615 0 (c :: r) := by
    unfold Lib.parseUintB; rw [if_neg (by simp)]
  have key : numOf (c :: r) = if digs (c :: r) = true ∧ vl 0 (c :: r) ≤ 9223372036854775807 then some (vl 0 (c :: r) : Int) else none := by
    unfold numOf Lib.parseIntB
    have n1 : ¬ (c.toNat = 43 ∨ c.toNat = 45) := by omega
    have n2 : ¬ c.toNat = 45 := by omega
    simp only [if_neg n1, hp]
    cases hr : Lib.parseUintM 18446744073709551615 0 (c :: r) with
    | ok u =>
      obtain ⟨q1, q2, q3⟩ := (parseM _ rfl _ _ _ (by omega)).1 hr
      subst q2
      by_cases h63 : 9223372036854775808 ≤ vl 0 (c :: r)
      · rw [if_neg (by omega)]
        simp [n2, h63]
      · rw [if_pos ⟨q1, by omega⟩]
        simp [n2, h63]
    | «syntax» =>
      rw [if_neg]
      rintro ⟨q1, q2⟩
      have := (parseM _ rfl (c :: r) 0 _ (by omega)).2 ⟨q1, rfl, by omega⟩
      rw [hr] at this; cases this
    | range =>
      rw [if_neg]
      rintro ⟨q1, q2⟩
      have := (parseM _ rfl (c :: r) 0 _ (by omega)).2 ⟨q1, rfl, by omega⟩
      rw [hr] at this; cases this
  rw [key]
  unfold worthF
  by_cases hl : 19 < (c :: r).length
  · rw [if_pos hl, if_neg]
    rintro ⟨_, h2⟩
    have hc : 1 ≤ c.toNat - 48 := by
      rcases hz with h | h
      · omega
      · subst h; simp at hl
    have hv := vl_ge r (0 * 10 + (c.toNat - 48))
    have hv' := vl_cons 0 c r
    have hr : 19 ≤ r.length := by simp at hl; omega
    have hpow : 10 ^ 19 ≤ 10 ^ r.length := Nat.pow_le_pow_right (by decide) hr
    have h10 : (10 : Nat) ^ 19 = 10000000000000000000 := by decide
    have : 1 * 10 ^ r.length ≤ (0 * 10 + (c.toNat - 48)) * 10 ^ r.length := Nat.mul_le_mul_right _ (by omega)
    omega
  · rw [if_neg hl]

/-- The marks, the longest first. -/
def marks : List (List UInt8) := longs ++ shorts.map (fun c => [c])
def markB (bs : List UInt8) (k : Nat) (l : List UInt8) : Bool := decide (k + l.length ≤ bs.length) && (sub bs k (k + l.length) == l)
theorem find_congr {L : List (List UInt8)} {p q : List UInt8 → Bool} (h : ∀ l ∈ L, p l = q l) : L.find? p = L.find? q := by
  induction L with
  | nil => rfl
  | cons x r ih =>
    rw [List.find?_cons, List.find?_cons, h x (by simp), ih (fun l hl => h l (by simp [hl]))]
theorem find_eq (L : List (List UInt8)) (x : List UInt8) : L.find? (fun l => x == l) = if L.contains x then some x else none := by
  induction L with
  | nil => rfl
  | cons y r ih =>
    rw [List.find?_cons, List.contains_cons]
    cases h : (x == y) with
    | true => simp at h; subst h; simp
    | false => simpa using ih
theorem find_none (L : List (List UInt8)) : L.find? (fun _ => false) = none := by
  induction L with
  | nil => rfl
  | cons y r ih => rw [List.find?_cons]; exact ih
theorem longs_len : ∀ l ∈ longs, l.length = 2 := by decide
theorem sub_one {bs : List UInt8} {k : Nat} (hk : k < bs.length) : sub bs k (k + 1) = [byteOf (B bs k)] := by
  unfold sub B byteOf
  rw [List.getElem?_eq_getElem hk, List.drop_eq_getElem_cons hk, show k + 1 - k = 0 + 1 by omega, List.take_succ_cons, List.take_zero]
  simp
theorem longs_find (bs : List UInt8) (k : Nat) : longs.find? (markB bs k) = if k + 2 ≤ bs.length ∧ longB (sub bs k (k + 2)) = true then some (sub bs k (k + 2)) else none := by
  by_cases h2 : k + 2 ≤ bs.length
  · rw [find_congr (q := fun l => sub bs k (k + 2) == l) (fun l hl => by unfold markB; rw [longs_len l hl]; simp [h2]), find_eq]
    unfold longB
    simp [h2]
  · rw [find_congr (q := fun _ => false) (fun l hl => by unfold markB; rw [longs_len l hl]; simp [h2]), find_none, if_neg (fun h => h2 h.1)]
theorem shorts_find {bs : List UInt8} {k : Nat} (hk : k < bs.length) : (shorts.map (fun c => [c])).find? (markB bs k) = if shortB (B bs k) = true then some (sub bs k (k + 1)) else none := by
  rw [find_congr (q := fun l => sub bs k (k + 1) == l) (fun l hl => by
    obtain ⟨c, _, rfl⟩ := List.mem_map.1 hl
    unfold markB
    simp
    intro _; omega), find_eq, sub_one hk]
  have e : (shorts.map (fun c => [c])).contains [byteOf (B bs k)] = shortB (B bs k) := by
    unfold shortB
    rw [Bool.eq_iff_iff]
    simp
  rw [e]
/-- The first mark that stands there. -/
theorem mark_find {bs : List UInt8} {k : Nat} (hk : k < bs.length) : oneMark bs k = match marks.find? (markB bs k) with
    | some l => .ok (⟨5, 0, l⟩, k + l.length)
    | none => .error 11 := by
  unfold marks oneMark
  rw [List.find?_append, longs_find, shorts_find hk]
  by_cases h2 : k + 2 ≤ bs.length ∧ longB (sub bs k (k + 2)) = true
  · rw [if_pos h2, if_pos h2]
    have := sub_length (bs := bs) (i := k) (j := k + 2) (by omega) h2.1
    simp [this]
  · rw [if_neg h2, if_neg h2]
    cases h1 : shortB (B bs k) with
    | true =>
      have := sub_length (bs := bs) (i := k) (j := k + 1) (by omega) (by omega)
      simp [this]
    | false => simp
end Tx
end Go.Proofs.YtjddbiabkobfoaaDoor
