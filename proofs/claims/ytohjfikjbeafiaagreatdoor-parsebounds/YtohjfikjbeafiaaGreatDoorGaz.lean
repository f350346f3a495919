/- Plain facts: the tokens from a place on, numbers, texts and marks as the document's own functions find them. Nothing of the program is named here. A source with something ahead of it and, behind a new line, something behind it: its tokens are read again. Tokens at the beginning and at the end of a longer source. What is read goes on being read where the same tokens stand among others: something ahead, a closing mark behind. -/
import Derived.Test.YtohjfikjbeafiaaGreatDoorGac
import Derived.Test.YtohjfikjbeafiaaGreatDoorGas
namespace Go.Proofs.YtohjfikjbeafiaaGreatDoor.T1
namespace Tx

/-- The tokens do not depend on the fuel, if there is enough. -/
theorem toks_fuel (bs : List UInt8) : ∀ (f g k : Nat), bs.length - k < f → bs.length - k < g → toks bs f k = toks bs g k := by
  intro f
  induction f with
  | zero => intro g k h; omega
  | succ f ih =>
    intro g k hf hg
    obtain ⟨g, rfl⟩ : ∃ g', g = g' + 1 := ⟨g - 1, by omega⟩
    by_cases hk : k < bs.length
    · cases h35 : (B bs k == 35) with
      | true =>
        rw [toks_remark hk h35, toks_remark hk h35]
        have h1 : k < upTo notTen bs k := upTo_lt hk (by unfold notTen; simp at h35; rw [h35]; rfl)
        have h2 := upTo_le blankB bs (upTo notTen bs k)
        exact ih _ _ (by omega) (by omega)
      | false =>
        cases hb : blankB (B bs k) with
        | true =>
          rw [toks_blank hk h35 hb, toks_blank hk h35 hb]
          have h1 : k < upTo blankB bs k := upTo_lt hk hb
          exact ih _ _ (by omega) (by omega)
        | false =>
          cases h1 : one bs k with
          | error e => rw [toks_err hk h35 hb h1, toks_err hk h35 hb h1]
          | ok x =>
            obtain ⟨t, j⟩ := x
            have hj := one_ok hk h1
            have e := ih g j (by omega) (by omega)
            have a1 := toks_ok (f := f) [] hk h35 hb h1
            have a2 := toks_ok (f := g) [] hk h35 hb h1
            rw [ahead_nil] at a1 a2
            rw [a1, a2, e]
    · rw [toks_end hk, toks_end hk]

/-- The tokens from a place on. -/
def tk (bs : List UInt8) (k : Nat) : Except (Int × Nat) (List (Tk × Nat)) := toks bs (bs.length - k + 1) k
theorem tk_all (bs : List UInt8) : all bs = tk bs 0 := toks_fuel bs _ _ 0 (by omega) (by omega)
theorem tk_end {bs : List UInt8} {k : Nat} (h : bs.length ≤ k) : tk bs k = .ok [] := toks_end (by omega)
theorem tk_err {bs : List UInt8} {k : Nat} {e : Int} (hk : k < bs.length) (h : (B bs k == 35) = false) (h2 : blankB (B bs k) = false) (h1 : one bs k = .error e) : tk bs k = .error (e, k) := toks_err hk h h2 h1
theorem tk_ok {bs : List UInt8} {k j : Nat} {t : Tk} (d : List (Tk × Nat)) (hk : k < bs.length) (h : (B bs k == 35) = false) (h2 : blankB (B bs k) = false) (h1 : one bs k = .ok (t, j)) : ahead d (tk bs k) = ahead (d ++ [(t, k)]) (tk bs j) := by
  have hj := one_ok hk h1
  unfold tk
  rw [toks_ok d hk h h2 h1, toks_fuel bs (bs.length - k) (bs.length - j + 1) j (by omega) (by omega)]
theorem tk_blanks (bs : List UInt8) : ∀ (d k : Nat), k + d = bs.length → tk bs k = tk bs (upTo blankB bs k) := by
  intro d
  induction d with
  | zero => intro k h; rw [upTo_end (by omega)]
  | succ d ih =>
    intro k h
    have hk : k < bs.length := by omega
    cases hb : blankB (B bs k) with
    | false => rw [upTo_out hk hb]
    | true =>
      have h35 : (B bs k == 35) = false := by
        cases h : (B bs k == 35) with
        | false => rfl
        | true => simp at h; rw [h] at hb; exact absurd hb (by decide)
      have h1 : k < upTo blankB bs k := upTo_lt hk hb
      unfold tk
      rw [toks_blank hk h35 hb]
      exact toks_fuel bs _ _ _ (by omega) (by omega)
theorem tk_blank {bs : List UInt8} {k : Nat} (hk : k < bs.length) (hb : blankB (B bs k) = true) : tk bs k = tk bs (k + 1) := by
  rw [tk_blanks bs (bs.length - k) k (by omega), upTo_in hk hb, ← tk_blanks bs (bs.length - (k + 1)) (k + 1) (by omega)]
theorem tk_remark {bs : List UInt8} {k : Nat} (hk : k < bs.length) (h : (B bs k == 35) = true) : tk bs k = tk bs (upTo notTen bs k) := by
  have h1 : k < upTo notTen bs k := upTo_lt hk (by unfold notTen; simp at h; rw [h]; rfl)
  have h2 := upTo_le blankB bs (upTo notTen bs k)
  have h3 := upTo_len notTen (bs := bs) (k := k) (by omega)
  rw [tk_blanks bs (bs.length - upTo notTen bs k) (upTo notTen bs k) (by omega)]
  unfold tk
  rw [toks_remark hk h]
  exact toks_fuel bs _ _ _ (by omega) (by omega)

/-- A text that may be of any length. -/
def qd (bs : List UInt8) : Nat → Nat → List UInt8 → Option (List UInt8 × Nat)
  | 0, _, _ => none
  | f + 1, k, acc =>
    if k < bs.length then
      if B bs k == 34 then some (acc, k + 1)
      else if (txb bs k).2.1 then qd bs f (txb bs k).2.2 (acc ++ [byteOf (txb bs k).1]) else none
    else none
theorem qd_len (bs : List UInt8) : ∀ (f k : Nat) (acc s : List UInt8) (j : Nat), qd bs f k acc = some (s, j) → acc.length ≤ s.length := by
  intro f
  induction f with
  | zero => intro k acc s j h; simp [qd] at h
  | succ f ih =>
    intro k acc s j h
    unfold qd at h
    split at h
    · split at h
      · simp at h; rw [h.1]; exact Nat.le_refl _
      · split at h
        · have := ih _ _ _ _ h
          simp at this
          omega
        · simp at h
    · simp at h
def cut64 (r : Option (List UInt8 × Nat)) : Option (List UInt8 × Nat) := match r with
  | some (s, j) => if s.length ≤ 64 then some (s, j) else none
  | none => none
theorem txt_qd (bs : List UInt8) : ∀ (f k : Nat) (acc : List UInt8), acc.length ≤ 64 → txt bs f k acc = cut64 (qd bs f k acc) := by
  intro f
  induction f with
  | zero => intro k acc _; rfl
  | succ f ih =>
    intro k acc ha
    unfold txt qd
    by_cases hk : k < bs.length
    · rw [if_pos hk, if_pos hk]
      cases hq : (B bs k == 34) with
      | true => simp [cut64, ha]
      | false =>
        simp only [Bool.false_eq_true, if_false]
        cases ht : (txb bs k).2.1 with
        | false => simp [cut64]
        | true =>
          simp only [Bool.true_and, if_true]
          by_cases h64 : acc.length = 64
          · rw [if_neg (by simp [h64])]
            cases hr : qd bs f (txb bs k).2.2 (acc ++ [byteOf (txb bs k).1]) with
            | none => rfl
            | some x =>
              obtain ⟨s, j⟩ := x
              have := qd_len bs _ _ _ _ _ hr
              simp at this
              rw [cut64, if_neg (by omega)]
          · rw [if_pos (by simpa using h64)]
            exact ih _ _ (by simp; omega)
    · rw [if_neg hk, if_neg hk]; rfl

/-- Digits alone, and what they say. -/
def digs (l : List UInt8) : Bool := l.all (fun c => decide (48 ≤ c.toNat) && decide (c.toNat ≤ 57))
def step10 (a : Nat) (c : UInt8) : Nat := a * 10 + (c.toNat - 48)
def vl (acc : Nat) (l : List UInt8) : Nat := l.foldl step10 acc
theorem vl_cons (acc : Nat) (c : UInt8) (r : List UInt8) : vl acc (c :: r) = vl (acc * 10 + (c.toNat - 48)) r := by
  unfold vl; rw [List.foldl_cons]; unfold step10; exact Eq.refl _
theorem vl_nil (acc : Nat) : vl acc [] = acc := by unfold vl; exact List.foldl_nil
theorem vl_ge (l : List UInt8) : ∀ acc : Nat, acc * 10 ^ l.length ≤ vl acc l := by
  induction l with
  | nil => intro acc; rw [vl_nil]; simp
  | cons c r ih =>
    intro acc
    have h := ih (acc * 10 + (c.toNat - 48))
    rw [vl_cons, List.length_cons, Nat.pow_succ]
    refine Nat.le_trans ?_ h
    rw [Nat.add_mul, Nat.mul_assoc, Nat.mul_comm 10]
    exact Nat.le_add_right _ _
theorem vl_le (l : List UInt8) : ∀ acc : Nat, acc ≤ vl acc l := by
  induction l with
  | nil => intro acc; rw [vl_nil]; exact Nat.le_refl _
  | cons c r ih => intro acc; rw [vl_cons]; have := ih (acc * 10 + (c.toNat - 48)); omega
theorem parseM (M : Nat) (hM : M = 18446744073709551615) (l : List UInt8) : ∀ (acc u : Nat), acc ≤ M → (Lib.parseUintM M acc l = .ok u ↔ digs l = true ∧ u = vl acc l ∧ vl acc l ≤ M) := by
  induction l with
  | nil =>
    intro acc u ha
    rw [vl_nil]
    simp only [Lib.parseUintM, digs, List.all_nil, true_and, Lib.NumEnd.ok.injEq]
    exact ⟨fun h => ⟨h.symm, ha⟩, fun h => h.1.symm⟩
  | cons c r ih =>
    intro acc u ha
    unfold Lib.parseUintM
    by_cases hc : 48 ≤ c.toNat ∧ c.toNat ≤ 57
    · rw [if_pos hc]
      have hd : digs (c :: r) = digs r := by simp [digs, hc.1, hc.2]
      have hv := vl_cons acc c r
      have hle := vl_le r (acc * 10 + (c.toNat - 48))
      rw [hd, hv]
      by_cases h1 : 1844674407370955162 ≤ acc
      · rw [if_pos h1]
        constructor
        · intro h; cases h
        · rintro ⟨_, _, h⟩; omega
      · rw [if_neg h1]
        by_cases h2 : M < acc * 10 + (c.toNat - 48)
        · rw [if_pos h2]
          constructor
          · intro h; cases h
          · rintro ⟨_, _, h⟩; omega
        · rw [if_neg h2]
          exact ih _ u (by omega)
    · rw [if_neg hc]
      constructor
      · intro h; cases h
      · rintro ⟨h, _⟩
        simp [digs] at h
        omega
/-- What the document's worth says of a text that begins with a digit. -/
def worthF (l : List UInt8) : Option Int :=
  if 19 < l.length then none else if digs l = true ∧ vl 0 l ≤ 9223372036854775807 then some (vl 0 l : Int) else none
theorem num_worth (c : UInt8) (r : List UInt8) (h0 : 48 ≤ c.toNat) (h1 : c.toNat ≤ 57) (hz : c.toNat ≠ 48 ∨ r = []) : numOf (c :: r) = worthF (c :: r) := by
  have hp : Lib.parseUintB 64 (c :: r) = Lib.parseUintM 18446744073709551615 0 (c :: r) := by
    unfold Lib.parseUintB; rw [if_neg (by simp)]
  have key : numOf (c :: r) = if digs (c :: r) = true ∧ vl 0 (c :: r) ≤ 9223372036854775807 then some (vl 0 (c :: r) : Int) else none := by
    unfold numOf Lib.parseIntB
    have n1 : ¬ (c.toNat = 43 ∨ c.toNat = 45) := by omega
    have n2 : ¬ c.toNat = 45 := by omega
    simp only [if_neg n1, hp]
    cases hr : Lib.parseUintM 18446744073709551615 0 (c :: r) with
    | ok u =>
      obtain ⟨q1, q2, q3⟩ := (parseM _ rfl _ _ _ (by omega)).1 hr
      subst q2
      by_cases h63 : 9223372036854775808 ≤ vl 0 (c :: r)
      · rw [if_neg (by omega)]
        simp [n2, h63]
      · rw [if_pos ⟨q1, by omega⟩]
        simp [n2, h63]
    | «syntax» =>
      rw [if_neg]
      rintro ⟨q1, q2⟩
      have := (parseM _ rfl (c :: r) 0 _ (by omega)).2 ⟨q1, rfl, by omega⟩
      rw [hr] at this; cases this
    | range =>
      rw [if_neg]
      rintro ⟨q1, q2⟩
      have := (parseM _ rfl (c :: r) 0 _ (by omega)).2 ⟨q1, rfl, by omega⟩
      rw [hr] at this; cases this
  rw [key]
  unfold worthF
  by_cases hl : 19 < (c :: r).length
  · rw [if_pos hl, if_neg]
    rintro ⟨_, h2⟩
    have hc : 1 ≤ c.toNat - 48 := by
      rcases hz with h | h
      · omega
      · subst h; simp at hl
    have hv := vl_ge r (0 * 10 + (c.toNat - 48))
    have hv' := vl_cons 0 c r
    have hr : 19 ≤ r.length := by simp at hl; omega
    have hpow : 10 ^ 19 ≤ 10 ^ r.length := Nat.pow_le_pow_right (by decide) hr
    have h10 : (10 : Nat) ^ 19 = 10000000000000000000 := by decide
    have : 1 * 10 ^ r.length ≤ (0 * 10 + (c.toNat - 48)) * 10 ^ r.length := Nat.mul_le_mul_right _ (by omega)
    omega
  · rw [if_neg hl]

/-- The marks, the longest first. -/
def marks : List (List UInt8) := longs ++ shorts.map (fun c => [c])
def markB (bs : List UInt8) (k : Nat) (l : List UInt8) : Bool := decide (k + l.length ≤ bs.length) && (sub bs k (k + l.length) == l)
theorem find_congr {L : List (List UInt8)} {p q : List UInt8 → Bool} (h : ∀ l ∈ L, p l = q l) : L.find? p = L.find? q := by
  induction L with
  | nil => rfl
  | cons x r ih =>
    rw [List.find?_cons, List.find?_cons, h x (by simp), ih (fun l hl => h l (by simp [hl]))]
theorem find_eq (L : List (List UInt8)) (x : List UInt8) : L.find? (fun l => x == l) = if L.contains x then some x else none := by
  induction L with
  | nil => rfl
  | cons y r ih =>
    rw [List.find?_cons, List.contains_cons]
    cases h : (x == y) with
    | true => simp at h; subst h; simp
    | false => simpa using ih
theorem find_none (L : List (List UInt8)) : L.find? (fun _ => false) = none := by
  induction L with
  | nil => rfl
  | cons y r ih => rw [List.find?_cons]; exact ih
theorem longs_len : ∀ l ∈ longs, l.length = 2 := by decide
theorem sub_one {bs : List UInt8} {k : Nat} (hk : k < bs.length) : sub bs k (k + 1) = [byteOf (B bs k)] := by
  unfold sub B byteOf
  rw [List.getElem?_eq_getElem hk, List.drop_eq_getElem_cons hk, show k + 1 - k = 0 + 1 by omega, List.take_succ_cons, List.take_zero]
  simp
theorem longs_find (bs : List UInt8) (k : Nat) : longs.find? (markB bs k) = if k + 2 ≤ bs.length ∧ longB (sub bs k (k + 2)) = true then some (sub bs k (k + 2)) else none := by
  by_cases h2 : k + 2 ≤ bs.length
  · rw [find_congr (q := fun l => sub bs k (k + 2) == l) (fun l hl => by unfold markB; rw [longs_len l hl]; simp [h2]), find_eq]
    unfold longB
    simp [h2]
  · rw [find_congr (q := fun _ => false) (fun l hl => by unfold markB; rw [longs_len l hl]; simp [h2]), find_none, if_neg (fun h => h2 h.1)]
theorem shorts_find {bs : List UInt8} {k : Nat} (hk : k < bs.length) : (shorts.map (fun c => [c])).find? (markB bs k) = if shortB (B bs k) = true then some (sub bs k (k + 1)) else none := by
  rw [find_congr (q := fun l => sub bs k (k + 1) == l) (fun l hl => by
    obtain ⟨c, _, rfl⟩ := List.mem_map.1 hl
    unfold markB
    simp
    intro _; omega), find_eq, sub_one hk]
  have e : (shorts.map (fun c => [c])).contains [byteOf (B bs k)] = shortB (B bs k) := by
    unfold shortB
    rw [Bool.eq_iff_iff]
    simp
  rw [e]
/-- The first mark that stands there. -/
theorem mark_find {bs : List UInt8} {k : Nat} (hk : k < bs.length) : oneMark bs k = match marks.find? (markB bs k) with
    | some l => .ok (⟨5, 0, l⟩, k + l.length)
    | none => .error 11 := by
  unfold marks oneMark
  rw [List.find?_append, longs_find, shorts_find hk]
  by_cases h2 : k + 2 ≤ bs.length ∧ longB (sub bs k (k + 2)) = true
  · rw [if_pos h2, if_pos h2]
    have := sub_length (bs := bs) (i := k) (j := k + 2) (by omega) h2.1
    simp [this]
  · rw [if_neg h2, if_neg h2]
    cases h1 : shortB (B bs k) with
    | true =>
      have := sub_length (bs := bs) (i := k) (j := k + 1) (by omega) (by omega)
      simp [this]
    | false => simp
end Tx
end Go.Proofs.YtohjfikjbeafiaaGreatDoor.T1
namespace Go.Proofs.YtohjfikjbeafiaaGreatDoor.T1
namespace Tx

theorem upTo_eq {p : Int → Bool} {cs : List UInt8} {q : Nat} : ∀ n, (∀ i, i < n → p (B cs (q + i)) = true) → q + n ≤ cs.length → (q + n < cs.length → p (B cs (q + n)) = false) → upTo p cs q = q + n := by
  intro n
  induction n generalizing q with
  | zero =>
    intro _ hl hs
    by_cases h : q < cs.length
    · exact upTo_out h (hs h)
    · exact upTo_end (by omega)
  | succ n ih =>
    intro ha hl hs
    have h0 : p (B cs q) = true := by simpa using ha 0 (by omega)
    rw [upTo_in (by omega) h0, ih (q := q + 1) (fun i hi => by rw [show q + 1 + i = q + (i + 1) by omega]; exact ha (i + 1) (by omega)) (by omega) (fun h => by rw [show q + 1 + n = q + (n + 1) by omega]; exact hs (by omega))]
    omega
theorem txt_far (bs cs : List UInt8) : ∀ (f f' k q : Nat) (acc s : List UInt8) (j : Nat), k ≤ bs.length → txt bs f k acc = some (s, j) → (∀ i, k + i < j → B cs (q + i) = B bs (k + i)) → q + (j - k) ≤ cs.length → cs.length - q < f' → txt cs f' q acc = some (s, q + (j - k))
  | 0, f', k, q, acc, s, j => fun _ h => by simp [txt] at h
  | f + 1, f', k, q, acc, s, j => fun hkl h hs hl hf => by
    obtain ⟨f', rfl⟩ : ∃ e, f' = e + 1 := ⟨f' - 1, by omega⟩
    have hc := txt_clean bs _ k acc s j hkl h
    have hq : q < cs.length := by omega
    have hb : B cs q = B bs k := hs 0 (by omega)
    unfold txt at h ⊢
    rw [if_pos hq, hb]
    by_cases hk : k < bs.length
    · rw [if_pos hk] at h
      by_cases h34 : (B bs k == 34) = true
      · rw [if_pos h34] at h ⊢
        simp at h
        obtain ⟨rfl, rfl⟩ := h
        congr 2
        omega
      · rw [if_neg h34] at h ⊢
        by_cases hg : ((txb bs k).2.1 && !(acc.length == 64)) = true
        · rw [if_pos hg] at h
          have hlt := txb_lt bs k hk
          have hc2 := txt_clean bs _ _ _ s j hlt.2 h
          have hx : txb cs q = ((txb bs k).1, (txb bs k).2.1, q + ((txb bs k).2.2 - k)) := by
            unfold txb
            rw [hb]
            by_cases h92 : (B bs k == 92) = true
            · rw [if_pos h92, if_pos h92]
              by_cases hk1 : k + 1 < bs.length
              · have h1 : (txb bs k).2.2 = k + 2 := by
                  unfold txb; rw [if_pos h92, if_pos hk1]; split <;> rfl
                have hb1 : B cs (q + 1) = B bs (k + 1) := hs 1 (by omega)
                rw [if_pos hk1, if_pos (show q + 1 < cs.length by omega), hb1]
                by_cases h110 : (B bs (k + 1) == 110) = true
                · rw [if_pos h110]
                  rw [if_pos h110]
                  refine Prod.ext rfl (Prod.ext rfl ?_); simp
                · rw [if_neg h110]
                  rw [if_neg h110]
                  refine Prod.ext rfl (Prod.ext rfl ?_); simp
              · exfalso
                have : (txb bs k).2.1 = false := by unfold txb; rw [if_pos h92, if_neg hk1]
                rw [this] at hg
                simp at hg
            · rw [if_neg h92, if_neg h92]
              refine Prod.ext rfl (Prod.ext rfl ?_); simp
          rw [hx]
          simp only []
          rw [if_pos hg]
          have := txt_far bs cs f f' (txb bs k).2.2 (q + ((txb bs k).2.2 - k)) _ s j hlt.2 h (fun i hi => by
            rw [show q + ((txb bs k).2.2 - k) + i = q + ((txb bs k).2.2 - k + i) by omega, hs _ (by omega)]
            congr 1; omega) (by omega) (by omega)
          rw [this]
          congr 2
          omega
        · rw [if_neg hg] at h; cases h
    · rw [if_neg hk] at h; cases h

section
variable (pre bs post : List UInt8)
/-- With something ahead and behind. -/
def put : List UInt8 := pre ++ (bs ++ 10 :: post)
theorem put_len : (put pre bs post).length = pre.length + bs.length + 1 + post.length := by simp [put]; omega
theorem put_at {i : Nat} (h : i < bs.length) : B (put pre bs post) (pre.length + i) = B bs i := by
  unfold B put
  rw [List.getElem?_append_right (by omega), Nat.add_sub_cancel_left, List.getElem?_append_left h]
theorem put_nl : B (put pre bs post) (pre.length + bs.length) = 10 := by
  unfold B put
  rw [List.getElem?_append_right (by omega), Nat.add_sub_cancel_left, List.getElem?_append_right (by omega)]
  simp
theorem put_sub {i j : Nat} (hj : j ≤ bs.length) : sub (put pre bs post) (pre.length + i) (pre.length + j) = sub bs i j := by
  unfold sub put
  rw [List.drop_append, List.drop_eq_nil_of_le (by omega), List.nil_append, show pre.length + i - pre.length = i by omega, show pre.length + j - (pre.length + i) = j - i by omega]
  by_cases hi : i ≤ bs.length
  · rw [List.drop_append_of_le_length hi, List.take_append_of_le_length (by simp; omega)]
  · rw [show j - i = 0 by omega]; simp
theorem put_upTo {p : Int → Bool} (hp : p 10 = false) {k : Nat} (hk : k ≤ bs.length) : upTo p (put pre bs post) (pre.length + k) = pre.length + upTo p bs k := by
  have h1 := upTo_le p bs k
  have h2 := upTo_len p hk
  have hl := put_len pre bs post
  rw [upTo_eq (upTo p bs k - k)]
  · omega
  · intro i hi
    rw [Nat.add_assoc, put_at _ _ _ (by omega)]
    exact (upTo_all p bs k (k + i) (by omega) (by omega)).1
  · omega
  · intro _
    rw [show pre.length + k + (upTo p bs k - k) = pre.length + upTo p bs k by omega]
    by_cases he : upTo p bs k < bs.length
    · rw [put_at _ _ _ he]; exact upTo_stop p bs k he
    · rw [show upTo p bs k = bs.length by omega, put_nl]; exact hp
theorem put_one {k j : Nat} {t : Tk} (hk : k < bs.length) (h : one bs k = .ok (t, j)) : one (put pre bs post) (pre.length + k) = .ok (t, pre.length + j) := by
  have hj := one_ok hk h
  have hl := put_len pre bs post
  unfold one at h ⊢
  rw [put_at _ _ _ hk]
  split at h
  · rename_i hc
    rw [if_pos hc]
    unfold oneWord at h ⊢
    rw [put_upTo _ _ _ (by decide) (Nat.le_of_lt hk), put_sub _ _ _ (upTo_len innerB (Nat.le_of_lt hk))]
    split at h
    · rename_i e; rw [if_pos e]; cases h; rfl
    · rename_i e
      rw [if_neg e]
      split at h
      · cases h
      · rename_i e2; rw [if_neg e2]; cases h; rfl
  · rename_i hc
    rw [if_neg hc]
    split at h
    · rename_i hd
      rw [if_pos hd]
      unfold oneNum at h ⊢
      rw [put_upTo _ _ _ (by decide) (Nat.le_of_lt hk), put_sub _ _ _ (upTo_len innerB (Nat.le_of_lt hk)), put_at _ _ _ hk]
      split at h
      · cases h
      · rename_i e
        rw [if_neg (fun e2 => e ⟨e2.1, by omega⟩)]
        cases hn : numOf (sub bs k (upTo innerB bs k)) with
        | none => rw [hn] at h; cases h
        | some v => rw [hn] at h; cases h; rfl
    · rename_i hd
      rw [if_neg hd]
      split at h
      · rename_i hq
        rw [if_pos hq]
        unfold oneText at h ⊢
        unfold textAt at h ⊢
        cases hx : txt bs (bs.length + 1) (k + 1) [] with
        | none => rw [hx] at h; cases h
        | some q =>
          obtain ⟨s, j'⟩ := q
          rw [hx] at h
          cases h
          have hc := txt_clean bs _ (k + 1) [] s j (by omega) hx
          have hf := txt_far bs (put pre bs post) _ ((put pre bs post).length + 1) (k + 1) (pre.length + k + 1) [] s j (by omega) hx (fun i hi => by rw [show pre.length + k + 1 + i = pre.length + (k + 1 + i) by omega, put_at _ _ _ (by omega)]) (by omega) (by omega)
          rw [hf]
          simp only [Except.ok.injEq, Prod.mk.injEq, true_and]
          omega
      · rename_i hq
        rw [if_neg hq]
        unfold oneMark at h ⊢
        rw [put_at _ _ _ hk]
        by_cases h2 : k + 2 ≤ bs.length
        · rw [show pre.length + k + 2 = pre.length + (k + 2) by omega, put_sub _ _ _ h2, show pre.length + k + 1 = pre.length + (k + 1) by omega, put_sub _ _ _ (by omega)]
          split at h
          · rename_i e; rw [if_pos ⟨by omega, e.2⟩]; cases h; rfl
          · rename_i e
            rw [if_neg (fun e2 => e ⟨h2, e2.2⟩)]
            split at h
            · rename_i e3; rw [if_pos e3]; cases h; rfl
            · cases h
        · have hk1 : k + 1 = bs.length := by omega
          rw [if_neg (fun e => h2 e.1)] at h
          have hlong : longB (sub (put pre bs post) (pre.length + k) (pre.length + k + 2)) = false := by
            have e1 : sub (put pre bs post) (pre.length + k) (pre.length + k + 2) = [bs[k], 10] := by
              unfold sub put
              rw [List.drop_append, List.drop_eq_nil_of_le (by omega), List.nil_append, show pre.length + k - pre.length = k by omega, List.drop_append_of_le_length (by omega), List.drop_eq_getElem_cons hk, hk1, List.drop_length, show pre.length + k + 2 - (pre.length + k) = 2 by omega]
              rfl
            rw [e1]
            unfold longB longs
            simp
          rw [if_neg (fun e => by rw [hlong] at e; exact Bool.noConfusion e.2), show pre.length + k + 1 = pre.length + (k + 1) by omega, put_sub _ _ _ (by omega)]
          split at h
          · rename_i e3; rw [if_pos e3]; cases h; rfl
          · cases h
/-- The tokens of the source, moved; behind them what stands behind it. -/
theorem put_tk : ∀ (n k : Nat) {l : List (Tk × Nat)}, bs.length - k ≤ n → k ≤ bs.length → tk bs k = .ok l → tk (put pre bs post) (pre.length + k) = ahead (l.map fun x => (x.1, pre.length + x.2)) (tk (put pre bs post) (pre.length + bs.length)) := by
  intro n
  induction n with
  | zero =>
    intro k l hn hk h
    obtain rfl : k = bs.length := by omega
    rw [tk_end (Nat.le_refl _)] at h
    cases h
    rw [List.map_nil, ahead_nil]
  | succ n ih =>
    intro k l hn hkl h
    have hl := put_len pre bs post
    by_cases hk : k < bs.length
    · by_cases h35 : (B bs k == 35) = true
      · have hne : k < upTo notTen bs k := upTo_lt hk (by have h9 := h35; simp at h9; rw [h9]; decide)
        have a2 := upTo_len notTen (bs := bs) (k := k) (by omega)
        rw [tk_remark hk h35] at h
        rw [tk_remark (by omega) (by rw [put_at _ _ _ hk]; exact h35), put_upTo _ _ _ (by decide) hkl]
        exact ih _ (by omega) a2 h
      · have h35' : (B bs k == 35) = false := by simpa using h35
        by_cases hb : blankB (B bs k) = true
        · rw [tk_blank hk hb] at h
          rw [tk_blank (by omega) (by rw [put_at _ _ _ hk]; exact hb), Nat.add_assoc]
          exact ih _ (by omega) (by omega) h
        · have hb' : blankB (B bs k) = false := by simpa using hb
          cases h1 : one bs k with
          | error er => rw [tk_err hk h35' hb' h1] at h; cases h
          | ok x =>
            obtain ⟨t, j⟩ := x
            have h9 := tk_ok [] hk h35' hb' h1
            rw [ahead_nil, h] at h9
            have hj := one_ok hk h1
            cases hr : tk bs j with
            | error er => rw [hr] at h9; cases h9
            | ok l2 =>
              rw [hr] at h9
              obtain rfl : l = [(t, k)] ++ l2 := Except.ok.inj h9
              have h8 := tk_ok [] (by omega) (by rw [put_at _ _ _ hk]; exact h35') (by rw [put_at _ _ _ hk]; exact hb') (put_one pre _ post hk h1)
              rw [ahead_nil] at h8
              rw [h8, ih j (by omega) hj.2.1 hr]
              cases tk (put pre bs post) (pre.length + bs.length) <;> simp [ahead]
    · rw [tk_end (by omega)] at h
      cases h
      obtain rfl : k = bs.length := by omega
      rw [List.map_nil, ahead_nil]
end
end Tx
end Go.Proofs.YtohjfikjbeafiaaGreatDoor.T1
namespace Go.Proofs.YtohjfikjbeafiaaGreatDoor.T1
namespace Tx

section
variable (A X : List UInt8)
theorem suf_at (i : Nat) : B (A ++ X) (A.length + i) = B X i := by
  unfold B
  rw [List.getElem?_append_right (by omega), Nat.add_sub_cancel_left]
theorem suf_sub (i j : Nat) : sub (A ++ X) (A.length + i) (A.length + j) = sub X i j := by
  unfold sub
  rw [List.drop_append, List.drop_eq_nil_of_le (by omega), List.nil_append, show A.length + i - A.length = i by omega, show A.length + j - (A.length + i) = j - i by omega]
theorem suf_upTo (p : Int → Bool) {k : Nat} (hk : k ≤ X.length) : upTo p (A ++ X) (A.length + k) = A.length + upTo p X k := by
  have h1 := upTo_le p X k
  have h2 := upTo_len p hk
  rw [upTo_eq (upTo p X k - k)]
  · omega
  · intro i hi
    rw [Nat.add_assoc, suf_at]
    exact (upTo_all p X k (k + i) (by omega) (by omega)).1
  · simp; omega
  · intro hl
    rw [show A.length + k + (upTo p X k - k) = A.length + upTo p X k by omega, suf_at]
    exact upTo_stop p X k (by simp at hl; omega)
theorem suf_one {k j : Nat} {t : Tk} (hk : k < X.length) (h : one X k = .ok (t, j)) : one (A ++ X) (A.length + k) = .ok (t, A.length + j) := by
  have hj := one_ok hk h
  unfold one at h ⊢
  rw [suf_at]
  split at h
  · rename_i hc
    rw [if_pos hc]
    unfold oneWord at h ⊢
    rw [suf_upTo _ _ _ (Nat.le_of_lt hk), suf_sub]
    split at h
    · rename_i e; rw [if_pos e]; cases h; rfl
    · rename_i e
      rw [if_neg e]
      split at h
      · cases h
      · rename_i e2; rw [if_neg e2]; cases h; rfl
  · rename_i hc
    rw [if_neg hc]
    split at h
    · rename_i hd
      rw [if_pos hd]
      unfold oneNum at h ⊢
      rw [suf_upTo _ _ _ (Nat.le_of_lt hk), suf_sub, suf_at]
      split at h
      · cases h
      · rename_i e
        rw [if_neg (fun e2 => e ⟨e2.1, by omega⟩)]
        cases hn : numOf (sub X k (upTo innerB X k)) with
        | none => rw [hn] at h; cases h
        | some v => rw [hn] at h; cases h; rfl
    · rename_i hd
      rw [if_neg hd]
      split at h
      · rename_i hq
        rw [if_pos hq]
        unfold oneText at h ⊢
        unfold textAt at h ⊢
        cases hx : txt X (X.length + 1) (k + 1) [] with
        | none => rw [hx] at h; cases h
        | some q =>
          obtain ⟨s, j'⟩ := q
          rw [hx] at h
          cases h
          have hc := txt_clean X _ (k + 1) [] s j (by omega) hx
          have hf := txt_far X (A ++ X) _ ((A ++ X).length + 1) (k + 1) (A.length + k + 1) [] s j (by omega) hx (fun i hi => by rw [show A.length + k + 1 + i = A.length + (k + 1 + i) by omega, suf_at]) (by simp; omega) (by simp; omega)
          rw [hf]
          simp only [Except.ok.injEq, Prod.mk.injEq, true_and]
          omega
      · rename_i hq
        rw [if_neg hq]
        unfold oneMark at h ⊢
        rw [suf_at, show A.length + k + 2 = A.length + (k + 2) by omega, suf_sub, show A.length + k + 1 = A.length + (k + 1) by omega, suf_sub]
        split at h
        · rename_i e; rw [if_pos ⟨by simp; omega, e.2⟩]; cases h; rfl
        · rename_i e
          rw [if_neg (fun e2 => e ⟨by have := e2.1; simp at this; omega, e2.2⟩)]
          split at h
          · rename_i e3; rw [if_pos e3]; cases h; rfl
          · cases h
theorem suf_tk : ∀ (n k : Nat) {l : List (Tk × Nat)}, X.length - k ≤ n → k ≤ X.length → tk X k = .ok l → tk (A ++ X) (A.length + k) = .ok (l.map fun x => (x.1, A.length + x.2)) := by
  intro n
  induction n with
  | zero =>
    intro k l hn hk h
    obtain rfl : k = X.length := by omega
    rw [tk_end (Nat.le_refl _)] at h
    cases h
    exact tk_end (by simp)
  | succ n ih =>
    intro k l hn hkl h
    by_cases hk : k < X.length
    · have hlt : A.length + k < (A ++ X).length := by simp; omega
      by_cases h35 : (B X k == 35) = true
      · have hne : k < upTo notTen X k := upTo_lt hk (by have h9 := h35; simp at h9; rw [h9]; decide)
        have a2 := upTo_len notTen (bs := X) (k := k) (by omega)
        rw [tk_remark hk h35] at h
        rw [tk_remark hlt (by rw [suf_at]; exact h35), suf_upTo _ _ _ hkl]
        exact ih _ (by omega) a2 h
      · have h35' : (B X k == 35) = false := by simpa using h35
        by_cases hb : blankB (B X k) = true
        · rw [tk_blank hk hb] at h
          rw [tk_blank hlt (by rw [suf_at]; exact hb), Nat.add_assoc]
          exact ih _ (by omega) (by omega) h
        · have hb' : blankB (B X k) = false := by simpa using hb
          cases h1 : one X k with
          | error er => rw [tk_err hk h35' hb' h1] at h; cases h
          | ok x =>
            obtain ⟨t, j⟩ := x
            have h9 := tk_ok [] hk h35' hb' h1
            rw [ahead_nil, h] at h9
            have hj := one_ok hk h1
            cases hr : tk X j with
            | error er => rw [hr] at h9; cases h9
            | ok l2 =>
              rw [hr] at h9
              obtain rfl : l = [(t, k)] ++ l2 := Except.ok.inj h9
              have h8 := tk_ok [] hlt (by rw [suf_at]; exact h35') (by rw [suf_at]; exact hb') (suf_one A _ hk h1)
              rw [ahead_nil] at h8
              rw [h8, ih j (by omega) hj.2.1 hr]
              simp [ahead]
    · rw [tk_end (by omega)] at h
      cases h
      exact tk_end (by simp; omega)
theorem pre_at {i : Nat} (h : i < A.length) : B (A ++ X) i = B A i := by
  unfold B
  rw [List.getElem?_append_left h]
theorem pre_sub {i j : Nat} (hj : j ≤ A.length) : sub (A ++ X) i j = sub A i j := by
  unfold sub
  by_cases hi : i ≤ A.length
  · rw [List.drop_append_of_le_length hi, List.take_append_of_le_length (by simp; omega)]
  · rw [show j - i = 0 by omega]; simp
theorem pre_upTo {p : Int → Bool} {k : Nat} (h : upTo p A k < A.length) : upTo p (A ++ X) k = upTo p A k := by
  have h1 := upTo_le p A k
  rw [upTo_eq (upTo p A k - k)]
  · omega
  · intro i hi
    rw [pre_at _ _ (by omega)]
    exact (upTo_all p A k (k + i) (by omega) (by omega)).1
  · simp; omega
  · intro _
    rw [show k + (upTo p A k - k) = upTo p A k by omega, pre_at _ _ h]
    exact upTo_stop p A k h
/-- A word or a mark behind which something stands. -/
theorem pre_one {k j : Nat} {t : Tk} (hk : k < A.length) (hq : (B A k == 34) = false) (hd : digitB (B A k) = false) (h : one A k = .ok (t, j)) (hj : j < A.length) : one (A ++ X) k = .ok (t, j) := by
  unfold one at h ⊢
  rw [pre_at _ _ hk]
  split at h
  · rename_i hc
    rw [if_pos hc]
    unfold oneWord at h ⊢
    have hu : upTo innerB A k = j := by
      split at h
      · exact (Prod.mk.inj (Except.ok.inj h)).2
      · split at h
        · cases h
        · exact (Prod.mk.inj (Except.ok.inj h)).2
    rw [pre_upTo _ _ (by omega), pre_sub _ _ (by omega)]
    exact h
  · rename_i hc
    rw [if_neg hc]
    rw [if_neg (by simp [hd])] at h ⊢
    rw [if_neg (by simp [hq])] at h ⊢
    unfold oneMark at h ⊢
    rw [pre_at _ _ hk]
    by_cases h2 : k + 2 ≤ A.length
    · rw [pre_sub _ _ h2, pre_sub _ _ (by omega)]
      split at h
      · rename_i e; rw [if_pos ⟨by simp; omega, e.2⟩]; exact h
      · rename_i e; rw [if_neg (fun e2 => e ⟨h2, e2.2⟩)]; exact h
    · rw [if_neg (fun e => h2 e.1)] at h
      split at h
      · cases h; omega
      · cases h
/-- A mark that nothing can be joined to. -/
theorem last_mark {k : Nat} (hk : k + 1 = A.length) (hl : letterB (B A k) = false) (hd : digitB (B A k) = false) (hq : (B A k == 34) = false) (hs : shortB (B A k) = true) (hn : longB (sub (A ++ X) k (k + 2)) = false) : one (A ++ X) k = .ok (⟨5, 0, sub A k (k + 1)⟩, k + 1) := by
  unfold one
  rw [pre_at _ _ (by omega), if_neg (by simp [hl]), if_neg (by simp [hd]), if_neg (by simp [hq])]
  unfold oneMark
  rw [pre_at _ _ (by omega), if_neg (fun e => by rw [hn] at e; exact Bool.noConfusion e.2), if_pos hs, pre_sub _ _ (by omega)]
theorem last_sub {k : Nat} {c : UInt8} (hk : k + 1 = A.length) (hc : A[k]? = some c) : sub (A ++ X) k (k + 2) = c :: X.take 1 := by
  unfold sub
  obtain ⟨h1, rfl⟩ := List.getElem?_eq_some_iff.1 hc
  rw [List.drop_append_of_le_length (by omega), List.drop_eq_getElem_cons h1, hk, List.drop_length, show k + 2 - k = 2 by omega]
  simp
/-- One token more. -/
theorem step_tok {bs : List UInt8} {k j : Nat} {t : Tk} {r : Except (Int × Nat) (List (Tk × Nat))} (hk : k < bs.length) (h35 : (B bs k == 35) = false) (hb : blankB (B bs k) = false) (h1 : one bs k = .ok (t, j)) (hr : tk bs j = r) : tk bs k = ahead [(t, k)] r := by
  have h9 := tk_ok [] hk h35 hb h1
  rw [ahead_nil] at h9
  rw [h9, hr]; rfl
end
end Tx
end Go.Proofs.YtohjfikjbeafiaaGreatDoor.T1
namespace Go.Proofs.YtohjfikjbeafiaaGreatDoor
namespace Ps
open Tr (T Nd)
/-- A node without its place; nodes alike but for places. -/
def er (x : Nd) : Nd := { x with ln := 0, co := 0 }
def Lk (t t' : T) : Prop := (Tr.flat t').map er = (Tr.flat t).map er
def Lks (a a' : List T) : Prop := a'.length = a.length ∧ (Tr.flats a').map er = (Tr.flats a).map er
theorem Lk.nd {x x' : Nd} {ks ks' : List T} (h : er x' = er x) (hk : (Tr.flats ks').map er = (Tr.flats ks).map er) : Lk (.nd x ks) (.nd x' ks') := by
  unfold Lk; rw [Tr.flat, Tr.flat, List.map_cons, List.map_cons, h, hk]
theorem lks_nil : (Tr.flats []).map er = (Tr.flats []).map er := rfl
theorem lks_cons {t t' : T} {r r' : List T} (h : Lk t t') (hr : (Tr.flats r').map er = (Tr.flats r).map er) : (Tr.flats (t' :: r')).map er = (Tr.flats (t :: r)).map er := by
  rw [Tr.flats, Tr.flats, List.map_append, List.map_append, h, hr]
/-- The tokens L stand from p on in L', a closing mark behind them. -/
structure Emb (L L' : List PT) (p : Nat) : Prop where
  at' : ∀ i t, L[i]? = some t → ∃ t', L'[p + i]? = some t' ∧ t'.kind = t.kind ∧ t'.n = t.n ∧ t'.s = t.s
  stop : ∃ t', L'[p + L.length]? = some t' ∧ t'.kind = 5 ∧ (t'.s = [41] ∨ t'.s = [59])
section
variable {L L' : List PT} {p : Nat}
theorem Emb.len (h : Emb L L' p) : p + L.length < L'.length := by
  obtain ⟨t', h1, _⟩ := h.stop
  exact (List.getElem?_eq_some_iff.1 h1).1
theorem Emb.sg_in (h : Emb L L' p) {k : Nat} (hk : k < L.length) : sg L' (p + k) = sg L k := by
  obtain ⟨t', h1, h2, _, h4⟩ := h.at' k _ (List.getElem?_eq_getElem hk)
  unfold sg
  rw [h1, List.getElem?_eq_getElem hk]
  simp only [h2, h4]
theorem Emb.kd_in (h : Emb L L' p) {k : Nat} (hk : k < L.length) : kd L' (p + k) = kd L k := by
  obtain ⟨t', h1, h2, _, h4⟩ := h.at' k _ (List.getElem?_eq_getElem hk)
  unfold kd
  rw [h1, List.getElem?_eq_getElem hk]
  simp only [h2]
theorem Emb.sg_end (h : Emb L L' p) : sg L L.length = [] ∧ (sg L' (p + L.length) = [41] ∨ sg L' (p + L.length) = [59]) := by
  obtain ⟨t', h1, h2, h3⟩ := h.stop
  unfold sg
  rw [h1]
  simp [h2, h3]
theorem Emb.kd_end (h : Emb L L' p) : kd L L.length = 0 ∧ kd L' (p + L.length) = 5 := by
  obtain ⟨t', h1, h2, h3⟩ := h.stop
  unfold kd
  rw [h1]
  simp [h2]
theorem Emb.sgw (h : Emb L L' p) {k : Nat} (hk : k ≤ L.length) {w : List UInt8} (h0 : w ≠ []) (h1 : w ≠ [41]) (h2 : w ≠ [59]) : sg L k = w ↔ sg L' (p + k) = w := by
  by_cases hl : k < L.length
  · rw [h.sg_in hl]
  · obtain rfl : k = L.length := by omega
    obtain ⟨a, b⟩ := h.sg_end
    rw [a]
    constructor
    · intro e; exact absurd e.symm h0
    · intro e; rcases b with b | b
      · rw [b] at e; exact absurd e.symm h1
      · rw [b] at e; exact absurd e.symm h2
theorem Emb.kdw (h : Emb L L' p) {k : Nat} (hk : k ≤ L.length) {n : Int} (h0 : n ≠ 0) (h1 : n ≠ 5) : kd L k = n ↔ kd L' (p + k) = n := by
  by_cases hl : k < L.length
  · rw [h.kd_in hl]
  · obtain rfl : k = L.length := by omega
    obtain ⟨a, b⟩ := h.kd_end
    rw [a, b]
    exact ⟨fun e => absurd e.symm h0, fun e => absurd e.symm h1⟩
theorem Emb.fn (h : Emb L L' p) {k : Nat} (hk : k ≤ L.length) (F : List UInt8 → Int) (h0 : F [] = 0) (h1 : F [41] = 0) (h2 : F [59] = 0) : F (sg L' (p + k)) = F (sg L k) := by
  by_cases hl : k < L.length
  · rw [h.sg_in hl]
  · obtain rfl : k = L.length := by omega
    obtain ⟨a, b⟩ := h.sg_end
    rw [a, h0]
    rcases b with b | b <;> rw [b] <;> assumption
/-- What is read is read again. -/
def Rl {α α' : Type} (L : List PT) (p : Nat) (R : α → α' → Prop) (r : Re α) (r' : Re α') : Prop := ∀ a j l, r = .ok (a, j, l) → j ≤ L.length ∧ ∃ a' l', r' = .ok (a', p + j, l') ∧ R a a' ∧ (l = [] → l' = [])
theorem rl_bnd {α α' β β' : Type} {R : α → α' → Prop} {Q : β → β' → Prop} {r : Re α} {r' : Re α'} {f : α → Nat → Re β} {f' : α' → Nat → Re β'} (h : Rl L p R r r') (hf : ∀ a a' j, j ≤ L.length → R a a' → Rl L p Q (f a j) (f' a' (p + j))) : Rl L p Q (bnd r f) (bnd r' f') := by
  intro b i m hb
  obtain ⟨a, j, l, m', h1, h2, h3⟩ := bnd_out hb
  obtain ⟨hj, a', l', h4, h5, h6⟩ := h a j l h1
  obtain ⟨hi, b', m2, h7, h8, h9⟩ := hf a a' j hj h5 b i m' h2
  refine ⟨hi, b', l' ++ m2, ?_, h8, fun hm => ?_⟩
  · rw [bnd_ok _ h4, h7]
  · rw [h3] at hm; simp at hm; rw [h6 hm.1, h9 hm.2]; rfl
theorem rl_ok {α α' : Type} {R : α → α' → Prop} {a : α} {a' : α'} {k : Nat} (hk : k ≤ L.length) (h : R a a') : Rl L p R (.ok (a, k, [])) (.ok (a', p + k, [])) := by
  intro b j l e; cases e; exact ⟨hk, a', [], rfl, h, fun _ => rfl⟩
theorem rl_err {α α' : Type} {R : α → α' → Prop} {r' : Re α'} {k : Nat} : Rl L p R (.error k) r' := by intro b j l e; cases e
theorem rl_if {α α' : Type} {R : α → α' → Prop} {c c' : Prop} [Decidable c] [Decidable c'] {A B : Re α} {A' B' : Re α'} (hc : c ↔ c') (hA : c → Rl L p R A A') (hB : ¬ c → Rl L p R B B') : Rl L p R (if c then A else B) (if c' then A' else B') := by
  by_cases h : c
  · rw [if_pos h, if_pos (hc.1 h)]; exact hA h
  · rw [if_neg h, if_neg (fun e => h (hc.2 e))]; exact hB h
def SameT (x x' : PT) : Prop := x'.n = x.n ∧ x'.s = x.s
theorem Emb.tok (h : Emb L L' p) (e e' : PT) {k : Nat} (hk : k < L.length) : SameT (tok L e k) (tok L' e' (p + k)) := by
  obtain ⟨t', h1, _, h3, h4⟩ := h.at' k _ (List.getElem?_eq_getElem hk)
  unfold Ps.tok
  rw [h1, List.getElem?_eq_getElem hk]
  exact ⟨h3, h4⟩
theorem rl_expc (h : Emb L L' p) (e e' : PT) {c : UInt8} {r : List UInt8} {k : Nat} : Rl L p SameT (expc L e (c :: r) k) (expc L' e' (c :: r) (p + k)) := by
  intro a j l hx
  have hlt := expc_lt hx
  unfold expc at hx ⊢
  split at hx
  · rename_i hs
    cases hx
    rw [if_pos (by rw [h.sg_in hlt.2]; exact hs)]
    exact ⟨hlt.2, _, [], rfl, h.tok e e' hlt.2, fun _ => rfl⟩
  · cases hx
theorem rl_nam (h : Emb L L' p) (e e' : PT) {k : Nat} : Rl L p SameT (nam L e k) (nam L' e' (p + k)) := by
  intro a j l hx
  have hlt := nam_lt hx
  unfold nam at hx ⊢
  split at hx
  · rename_i hs
    cases hx
    rw [if_pos (by rw [h.kd_in hlt.2]; exact hs)]
    exact ⟨hlt.2, _, [], rfl, h.tok e e' hlt.2, fun _ => rfl⟩
  · cases hx
theorem ty_ext (h : Emb L L' p) : ∀ (d d' : Nat) (f : Bool) (k : Nat) {t : T2.Tp.Ty} {j : Nat}, d ≤ d' → k ≤ L.length → ty L d f k = .ok (t, j) → ty L' d' f (p + k) = .ok (t, p + j) ∧ j ≤ L.length := by
  intro d
  induction d with
  | zero => intro d' f k t j _ _ hr; cases hr
  | succ d ih =>
    intro d' f k t j hd hk hr
    obtain ⟨d', rfl⟩ : ∃ x, d' = x + 1 := ⟨d' - 1, by omega⟩
    have hW : ∀ (w : List UInt8) {i : Nat}, i ≤ L.length → w ≠ [] → w ≠ [41] → w ≠ [59] → (sg L i = w ↔ sg L' (p + i) = w) := fun w i hi h0 h1 h2 => h.sgw hi h0 h1 h2
    have hC : ∀ {i : Nat}, sg L i = [41] → sg L' (p + i) = [41] ∧ i < L.length := fun {i} hs => by have := sg_lt hs; exact ⟨by rw [h.sg_in this]; exact hs, this⟩
    cases f with
    | true =>
      rw [ty] at hr ⊢
      cases e1 : ty L d false k with
      | error i => rw [e1] at hr; cases hr
      | ok q =>
        obtain ⟨a, i⟩ := q
        rw [e1] at hr
        obtain ⟨h1, hi⟩ := ih d' false k (by omega) hk e1
        rw [h1]
        simp only at hr ⊢
        by_cases hs : sg L i = [45, 62]
        · rw [if_pos hs] at hr
          rw [if_pos ((hW _ hi (by decide) (by decide) (by decide)).1 hs)]
          have hlt := sg_lt hs
          cases e2 : ty L d true (i + 1) with
          | error i2 => rw [e2] at hr; cases hr
          | ok q2 =>
            obtain ⟨b, i2⟩ := q2
            rw [e2] at hr
            obtain ⟨h2, hi2⟩ := ih d' true (i + 1) (by omega) hlt e2
            rw [show p + i + 1 = p + (i + 1) from rfl, h2]
            cases hr
            exact ⟨rfl, hi2⟩
        · rw [if_neg hs] at hr
          rw [if_neg (fun e => hs ((hW _ hi (by decide) (by decide) (by decide)).2 e))]
          cases hr
          exact ⟨rfl, hi⟩
    | false =>
      rw [ty] at hr ⊢
      by_cases s1 : sg L k = wInt
      · rw [if_pos s1] at hr; rw [if_pos ((hW _ hk (by decide) (by decide) (by decide)).1 s1)]; cases hr; exact ⟨rfl, sg_lt s1⟩
      rw [if_neg s1] at hr; rw [if_neg (fun e => s1 ((hW _ hk (by decide) (by decide) (by decide)).2 e))]
      by_cases s2 : sg L k = wBool
      · rw [if_pos s2] at hr; rw [if_pos ((hW _ hk (by decide) (by decide) (by decide)).1 s2)]; cases hr; exact ⟨rfl, sg_lt s2⟩
      rw [if_neg s2] at hr; rw [if_neg (fun e => s2 ((hW _ hk (by decide) (by decide) (by decide)).2 e))]
      by_cases s3 : sg L k = wText
      · rw [if_pos s3] at hr; rw [if_pos ((hW _ hk (by decide) (by decide) (by decide)).1 s3)]; cases hr; exact ⟨rfl, sg_lt s3⟩
      rw [if_neg s3] at hr; rw [if_neg (fun e => s3 ((hW _ hk (by decide) (by decide) (by decide)).2 e))]
      by_cases s4 : sg L k = [63]
      · rw [if_pos s4] at hr; rw [if_pos ((hW _ hk (by decide) (by decide) (by decide)).1 s4)]; cases hr; exact ⟨rfl, sg_lt s4⟩
      rw [if_neg s4] at hr; rw [if_neg (fun e => s4 ((hW _ hk (by decide) (by decide) (by decide)).2 e))]
      by_cases s5 : sg L k = [40]
      · rw [if_pos s5] at hr; rw [if_pos ((hW _ hk (by decide) (by decide) (by decide)).1 s5)]
        have hlt := sg_lt s5
        cases e1 : ty L d true (k + 1) with
        | error i => rw [e1] at hr; cases hr
        | ok q =>
          obtain ⟨a, i⟩ := q
          rw [e1] at hr
          obtain ⟨h1, hi⟩ := ih d' true (k + 1) (by omega) hlt e1
          rw [show p + k + 1 = p + (k + 1) from rfl, h1]
          simp only at hr ⊢
          by_cases hs : sg L i = [44]
          · rw [if_pos hs] at hr
            rw [if_pos ((hW _ hi (by decide) (by decide) (by decide)).1 hs)]
            have hlt2 := sg_lt hs
            cases e2 : ty L d true (i + 1) with
            | error i2 => rw [e2] at hr; cases hr
            | ok q2 =>
              obtain ⟨b, i2⟩ := q2
              rw [e2] at hr
              obtain ⟨h2, hi2⟩ := ih d' true (i + 1) (by omega) hlt2 e2
              rw [show p + i + 1 = p + (i + 1) from rfl, h2]
              simp only at hr ⊢
              by_cases hc : sg L i2 = [41]
              · rw [if_pos hc] at hr; rw [if_pos (hC hc).1]; cases hr; exact ⟨rfl, (hC hc).2⟩
              · rw [if_neg hc] at hr; cases hr
          · rw [if_neg hs] at hr
            rw [if_neg (fun e => hs ((hW _ hi (by decide) (by decide) (by decide)).2 e))]
            by_cases hc : sg L i = [41]
            · rw [if_pos hc] at hr; rw [if_pos (hC hc).1]; cases hr; exact ⟨rfl, (hC hc).2⟩
            · rw [if_neg hc] at hr; cases hr
      rw [if_neg s5] at hr; rw [if_neg (fun e => s5 ((hW _ hk (by decide) (by decide) (by decide)).2 e))]
      by_cases s6 : sg L k = [91]
      · rw [if_pos s6] at hr; rw [if_pos ((hW _ hk (by decide) (by decide) (by decide)).1 s6)]
        have hlt := sg_lt s6
        cases e1 : ty L d true (k + 1) with
        | error i => rw [e1] at hr; cases hr
        | ok q =>
          obtain ⟨a, i⟩ := q
          rw [e1] at hr
          obtain ⟨h1, hi⟩ := ih d' true (k + 1) (by omega) hlt e1
          rw [show p + k + 1 = p + (k + 1) from rfl, h1]
          simp only at hr ⊢
          by_cases hs : sg L i = [93]
          · rw [if_pos hs] at hr; rw [if_pos ((hW _ hi (by decide) (by decide) (by decide)).1 hs)]; cases hr; exact ⟨rfl, sg_lt hs⟩
          · rw [if_neg hs] at hr; cases hr
      rw [if_neg s6] at hr; rw [if_neg (fun e => s6 ((hW _ hk (by decide) (by decide) (by decide)).2 e))]
      by_cases s7 : sg L k = wBox
      · rw [if_pos s7] at hr; rw [if_pos ((hW _ hk (by decide) (by decide) (by decide)).1 s7)]
        have hlt := sg_lt s7
        cases e1 : ty L d false (k + 1) with
        | error i => rw [e1] at hr; cases hr
        | ok q =>
          obtain ⟨a, i⟩ := q
          rw [e1] at hr
          obtain ⟨h1, hi⟩ := ih d' false (k + 1) (by omega) hlt e1
          rw [show p + k + 1 = p + (k + 1) from rfl, h1]
          cases hr
          exact ⟨rfl, hi⟩
      rw [if_neg s7] at hr; cases hr
theorem rl_wh (h : Emb L L' p) {k : Nat} (hk : k ≤ L.length) : Rl L p (fun t t' => t' = t) (wh L k) (wh L' (p + k)) := by
  intro a j l hx
  unfold wh at hx ⊢
  have hl := h.len
  cases hn : tyW' L k with
  | error i => rw [hn] at hx; cases hx
  | ok q =>
    obtain ⟨t, i⟩ := q
    rw [hn] at hx
    obtain ⟨h1, h2⟩ := ty_ext h _ (2 * (L'.length - (p + k)) + 2) true k (by omega) hk hn
    rw [show tyW' L' (p + k) = .ok (t, p + i) from h1]
    simp only [Except.ok.injEq, Prod.mk.injEq] at hx
    obtain ⟨rfl, rfl, rfl⟩ := hx
    refine ⟨h2, _, _, rfl, rfl, fun hl => ?_⟩
    split at hl
    · rename_i hh; rw [if_pos hh]
    · cases hl
theorem rl_ann (h : Emb L L' p) {k : Nat} (hk : k ≤ L.length) : Rl L p (fun t t' => t' = t) (ann L k) (ann L' (p + k)) := by
  unfold ann
  refine rl_if (h.sgw hk (by decide) (by decide) (by decide)) (fun hs => ?_) (fun _ => rl_ok hk rfl)
  have hw := rl_wh h (k := k + 1) (sg_lt hs)
  intro a j l hx
  cases hn : wh L (k + 1) with
  | error i => rw [hn] at hx; cases hx
  | ok q =>
    obtain ⟨t, i, l1⟩ := q
    rw [hn] at hx
    obtain ⟨h1, t', l', h2, rfl, h4⟩ := hw t i l1 hn
    cases hx
    rw [show p + k + 1 = p + (k + 1) from rfl, h2]
    exact ⟨h1, _, _, rfl, rfl, h4⟩
theorem er_mk (kind : Int) (m : Nat) (q q' : PT) : er (mkN kind m q') = er (mkN kind m q) := rfl
abbrev XE (L _L' : List PT) (p : Nat) (ex ex' : Nat → Re T) : Prop := ∀ k, k ≤ L.length → Rl L p Lk (ex k) (ex' (p + k))
variable {e e' : PT}
theorem rl_lam (h : Emb L L' p) {ex ex' : Nat → Re T} (hx : XE L L' p ex ex') (kind : Int) (q q' : PT) (ah : List UInt8) {k : Nat} : Rl L p Lk (lam L e ex kind q ah k) (lam L' e' ex' kind q' ah (p + k)) := by
  unfold lam
  refine rl_bnd (rl_expc h e e') fun _ _ k1 hk1 _ => rl_bnd (rl_nam h e e') fun x x' k2 hk2 hx2 => rl_bnd (rl_ann h hk2) fun t t' k3 hk3 ht => rl_bnd (rl_expc h e e') fun _ _ k4 hk4 _ => rl_bnd (rl_ann h hk4) fun u u' k5 hk5 hu => rl_bnd (rl_expc h e e') fun _ _ k6 hk6 _ => rl_bnd (hx k6 hk6) fun b b' k7 hk7 hb => rl_ok hk7 ?_
  subst ht; subst hu
  refine Lk.nd ?_ (lks_cons hb rfl)
  simp only [er, mkN, hx2.2]
theorem rl_bin (_h : Emb L L' p) {ex ex' : Nat → Re T} (hx : XE L L' p ex ex') (kind : Int) {a a' : T} (ha : Lk a a') {k : Nat} (hk : k < L.length) : Rl L p Lk (binR L e kind a ex k) (binR L' e' kind a' ex' (p + k)) := by
  unfold binR
  refine rl_bnd (hx (k + 1) hk) fun b b' j hj hb => rl_ok hj ?_
  exact Lk.nd rfl (lks_cons ha (lks_cons hb rfl))
theorem rl_un (_h : Emb L L' p) {ex ex' : Nat → Re T} (hx : XE L L' p ex ex') (kind : Int) {k : Nat} (hk : k < L.length) : Rl L p Lk (unR L e kind ex k) (unR L' e' kind ex' (p + k)) := by
  unfold unR
  refine rl_bnd (hx (k + 1) hk) fun b b' j hj hb => rl_ok hj ?_
  exact Lk.nd rfl (lks_cons hb rfl)
def XAll (L L' : List PT) (e e' : PT) (p d d' : Nat) : Prop := (∀ lv, (lv = .ex ∨ lv = .rk ∨ lv = .sm ∨ lv = .tm ∨ lv = .fc ∨ lv = .cl ∨ lv = .at) → XE L L' p (pe L e d lv) (pe L' e' d' lv)) ∧
  (∀ a a', Lk a a' → XE L L' p (pe L e d (.sml a)) (pe L' e' d' (.sml a'))) ∧ (∀ a a', Lk a a' → XE L L' p (pe L e d (.tml a)) (pe L' e' d' (.tml a'))) ∧ (∀ a a', Lk a a' → XE L L' p (pe L e d (.cll a)) (pe L' e' d' (.cll a'))) ∧
  (∀ q q' acc acc', Lks acc acc' → XE L L' p (pe L e d (.lsl q acc)) (pe L' e' d' (.lsl q' acc')))
theorem pe_ext (h : Emb L L' p) (e e' : PT) : ∀ d d', d ≤ d' → XAll L L' e e' p d d' := by
  intro d
  induction d with
  | zero =>
    intro d' _
    exact ⟨fun lv _ k _ => rl_err, fun _ _ _ k _ => rl_err, fun _ _ _ k _ => rl_err, fun _ _ _ k _ => rl_err, fun _ _ _ _ _ k _ => rl_err⟩
  | succ d ih =>
    intro d' hd
    obtain ⟨d', rfl⟩ : ∃ x, d' = x + 1 := ⟨d' - 1, by omega⟩
    obtain ⟨hA, hsml, html, hcll, hlsl⟩ := ih d' (by omega)
    have hex := hA .ex (by simp)
    have hrk := hA .rk (by simp)
    have hsm := hA .sm (by simp)
    have htm := hA .tm (by simp)
    have hfc := hA .fc (by simp)
    have hcl := hA .cl (by simp)
    have hat := hA .at (by simp)
    have hW : ∀ (w : List UInt8) {i : Nat}, i ≤ L.length → w ≠ [] → w ≠ [41] → w ≠ [59] → (sg L i = w ↔ sg L' (p + i) = w) := fun w i hi h0 h1 h2 => h.sgw hi h0 h1 h2
    refine ⟨fun lv hlv => ?_, fun a a' ha k hk => ?_, fun a a' ha k hk => ?_, fun a a' ha k hk => ?_, fun q q' acc acc' ha k hk => ?_⟩
    · rcases hlv with rfl | rfl | rfl | rfl | rfl | rfl | rfl <;> intro k hk <;> rw [pe, pe]
      · refine rl_if (hW _ hk (by decide) (by decide) (by decide)) (fun _ => ?_) fun _ => ?_
        · unfold fnR; exact rl_bnd (rl_expc h e e') fun _ _ k1 hk1 _ => rl_lam h hex 5 _ _ []
        refine rl_if (hW _ hk (by decide) (by decide) (by decide)) (fun _ => ?_) fun _ => ?_
        · unfold recR
          refine rl_bnd (rl_expc h e e') fun _ _ k1 hk1 _ => rl_bnd (rl_nam h e e') fun f f' k2 hk2 hf => ?_
          rw [hf.2]
          exact rl_lam h hex 6 _ _ _
        refine rl_if (hW _ hk (by decide) (by decide) (by decide)) (fun _ => ?_) fun _ => ?_
        · unfold letR
          refine rl_bnd (rl_expc h e e') fun _ _ k1 hk1 _ => rl_bnd (rl_nam h e e') fun x x' k2 hk2 hx => rl_bnd (rl_ann h hk2) fun t t' k3 hk3 ht => rl_bnd (rl_expc h e e') fun _ _ k4 hk4 _ => rl_bnd (hex k4 hk4) fun a a' k5 hk5 ha => rl_bnd (rl_expc h e e') fun _ _ k6 hk6 _ => rl_bnd (hex k6 hk6) fun b b' k7 hk7 hb => rl_ok hk7 ?_
          subst ht
          refine Lk.nd ?_ (lks_cons ha (lks_cons hb rfl))
          simp only [er, mkN, hx.2]
        refine rl_if (hW _ hk (by decide) (by decide) (by decide)) (fun _ => ?_) fun _ => ?_
        · unfold ifR
          refine rl_bnd (rl_expc h e e') fun _ _ k1 hk1 _ => rl_bnd (hex k1 hk1) fun a a' k2 hk2 ha => rl_bnd (rl_expc h e e') fun _ _ k3 hk3 _ => rl_bnd (hex k3 hk3) fun b b' k4 hk4 hb => rl_bnd (rl_expc h e e') fun _ _ k5 hk5 _ => rl_bnd (hex k5 hk5) fun c c' k6 hk6 hc => rl_ok hk6 ?_
          exact Lk.nd rfl (lks_cons ha (lks_cons hb (lks_cons hc rfl)))
        refine rl_bnd (hrk k hk) fun a a' j hj ha => ?_
        exact rl_if (hW _ hj (by decide) (by decide) (by decide)) (fun hs => rl_bin h hex 28 ha (sg_lt hs)) fun _ => rl_ok hj ha
      · refine rl_bnd (hsm k hk) fun a a' j hj ha => ?_
        rw [h.fn hj relK (by decide) (by decide) (by decide)]
        exact rl_if Iff.rfl (fun hs => rl_bin h hsm _ ha (relK_lt hs)) fun _ => rl_ok hj ha
      · exact rl_bnd (htm k hk) fun a a' j hj ha => hsml a a' ha j hj
      · exact rl_bnd (hfc k hk) fun a a' j hj ha => html a a' ha j hj
      · refine rl_if (hW _ hk (by decide) (by decide) (by decide)) (fun hs => rl_un h hfc 16 (sg_lt hs)) fun _ => ?_
        refine rl_if (hW _ hk (by decide) (by decide) (by decide)) (fun hs => rl_un h hfc 27 (sg_lt hs)) fun _ => hcl k hk
      · exact rl_bnd (hat k hk) fun a a' j hj ha => hcll a a' ha j hj
      · have hleaf : ∀ kind, k < L.length → Rl L p Lk (leafR L e kind k) (leafR L' e' kind (p + k)) := fun kind hl => by
          have ht := h.tok e e' hl
          exact rl_ok (k := k + 1) hl (Lk.nd (by simp only [er, mkN, ht.1, ht.2]) rfl)
        refine rl_if (h.kdw hk (by decide) (by decide)) (fun hs => hleaf 1 (kd_lt (by rw [hs]; decide))) fun _ => ?_
        refine rl_if (h.kdw hk (by decide) (by decide)) (fun hs => hleaf 2 (kd_lt (by rw [hs]; decide))) fun _ => ?_
        refine rl_if (h.kdw hk (by decide) (by decide)) (fun hs => hleaf 4 (kd_lt (by rw [hs]; decide))) fun _ => ?_
        refine rl_if (or_congr (hW _ hk (by decide) (by decide) (by decide)) (hW _ hk (by decide) (by decide) (by decide))) (fun hs => ?_) fun _ => ?_
        · have hl : k < L.length := by rcases hs with hs | hs <;> exact sg_lt hs
          have ht := h.tok e e' hl
          exact rl_ok (k := k + 1) hl (Lk.nd (by simp only [er, mkN, ht.2]) rfl)
        refine rl_if (hW _ hk (by decide) (by decide) (by decide)) (fun _ => ?_) fun _ => ?_
        · unfold brR
          refine rl_bnd (rl_expc h e e') fun _ _ k1 hk1 _ => rl_bnd (hex k1 hk1) fun a a' k2 hk2 ha => ?_
          refine rl_if (hW _ hk2 (by decide) (by decide) (by decide)) (fun hs => ?_) fun _ => ?_
          · refine rl_bnd (hex (k2 + 1) (sg_lt hs)) fun b b' k3 hk3 hb => rl_bnd (rl_expc h e e') fun _ _ k4 hk4 _ => rl_ok hk4 ?_
            exact Lk.nd rfl (lks_cons ha (lks_cons hb rfl))
          refine rl_if (hW _ hk2 (by decide) (by decide) (by decide)) (fun hs => ?_) fun _ => ?_
          · refine rl_bnd (rl_wh h (k := k2 + 1) (sg_lt hs)) fun t t' k3 hk3 ht => rl_bnd (rl_expc h e e') fun _ _ k4 hk4 _ => rl_ok hk4 ?_
            subst ht
            exact Lk.nd rfl (lks_cons ha rfl)
          · exact rl_bnd (rl_expc h e e') fun _ _ k3 hk3 _ => rl_ok hk3 ha
        refine rl_if (hW _ hk (by decide) (by decide) (by decide)) (fun _ => ?_) fun _ => ?_
        · unfold lsR
          refine rl_bnd (rl_expc h e e') fun _ _ k1 hk1 _ => ?_
          refine rl_if (hW _ hk1 (by decide) (by decide) (by decide)) (fun hs => rl_ok (k := k1 + 1) (sg_lt hs) (Lk.nd rfl rfl)) fun _ => ?_
          exact rl_bnd (hex k1 hk1) fun a a' k2 hk2 ha => hlsl _ _ [a] [a'] ⟨rfl, lks_cons ha rfl⟩ k2 hk2
        rw [h.fn hk appK (by decide) (by decide) (by decide)]
        refine rl_if Iff.rfl (fun hs => ?_) fun _ => ?_
        · have hl := appK_lt hs
          unfold appR
          refine rl_bnd (rl_expc (k := k + 1) h e e') fun _ _ k1 hk1 _ => rl_bnd (hex k1 hk1) fun a a' k2 hk2 ha => rl_bnd (rl_expc h e e') fun _ _ k3 hk3 _ => rl_ok hk3 ?_
          rw [(h.tok e e' hl).2]
          exact Lk.nd rfl (lks_cons ha rfl)
        refine rl_if (hW _ hk (by decide) (by decide) (by decide)) (fun _ => ?_) fun _ => rl_err
        unfold consR
        refine rl_bnd (rl_expc h e e') fun _ _ k1 hk1 _ => rl_bnd (rl_expc h e e') fun _ _ k2 hk2 _ => rl_bnd (hex k2 hk2) fun a a' k3 hk3 ha => rl_bnd (rl_expc h e e') fun _ _ k4 hk4 _ => rl_bnd (hex k4 hk4) fun b b' k5 hk5 hb => rl_bnd (rl_expc h e e') fun _ _ k6 hk6 _ => rl_ok hk6 ?_
        exact Lk.nd rfl (lks_cons ha (lks_cons hb rfl))
    · rw [pe, pe, h.fn hk sumK (by decide) (by decide) (by decide)]
      exact rl_if Iff.rfl (fun hs => rl_bnd (rl_bin h htm _ ha (sumK_lt hs)) fun b b' j hj hb => hsml b b' hb j hj) fun _ => rl_ok hk ha
    · rw [pe, pe]
      exact rl_if (hW _ hk (by decide) (by decide) (by decide)) (fun hs => rl_bnd (rl_bin h hfc 12 ha (sg_lt hs)) fun b b' j hj hb => html b b' hb j hj) fun _ => rl_ok hk ha
    · rw [pe, pe]
      refine rl_if (hW _ hk (by decide) (by decide) (by decide)) (fun hs => ?_) fun _ => rl_ok hk ha
      refine rl_bnd (hex (k + 1) (sg_lt hs)) fun b b' j hj hb => rl_bnd (rl_expc h e e') fun _ _ j2 hj2 _ => hcll _ _ ?_ j2 hj2
      exact Lk.nd rfl (lks_cons ha (lks_cons hb rfl))
    · rw [pe, pe]
      refine rl_if (hW _ hk (by decide) (by decide) (by decide)) (fun hs => ?_) fun _ => ?_
      · refine rl_bnd (hex (k + 1) (sg_lt hs)) fun b b' j hj hb => hlsl _ _ _ _ ⟨by simp [ha.1], ?_⟩ j hj
        rw [Tr.flats_append, Tr.flats_append, List.map_append, List.map_append, ha.2, lks_cons hb rfl]
      · refine rl_bnd (rl_expc h e e') fun _ _ j hj _ => rl_ok hj (Lk.nd ?_ ha.2)
        rw [ha.1]; rfl
end
end Ps
end Go.Proofs.YtohjfikjbeafiaaGreatDoor
