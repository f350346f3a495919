/- Plain facts about beginnings: the tokens of a beginning of a source are those of the source, but for a last one that was cut. -/
import Derived.Test.YtjddbiabkobfoaaDoorToks
import Derived.Lib.ParseIntBTie
namespace Go.Proofs.YtjddbiabkobfoaaDoor
namespace Tx

theorem B_take {bs : List UInt8} {n k : Nat} (h : k < n) : B (bs.take n) k = B bs k := by
  unfold B
  rw [List.getElem?_take, if_pos h]
theorem len_take {bs : List UInt8} {n : Nat} (h : n ≤ bs.length) : (bs.take n).length = n := by rw [List.length_take]; omega
theorem sub_take {bs : List UInt8} {n i j : Nat} (h : j ≤ n) : sub (bs.take n) i j = sub bs i j := by
  unfold sub
  rw [List.drop_take, List.take_take, Nat.min_eq_left (by omega)]

theorem upTo_take (p : Int → Bool) (bs : List UInt8) (n : Nat) (hn : n ≤ bs.length) : ∀ d k, k + d = n → upTo p (bs.take n) k = min (upTo p bs k) n
  | 0, k => fun h => by
    rw [upTo_end (by rw [len_take hn]; omega)]
    have := upTo_le p bs k
    omega
  | d + 1, k => fun h => by
    have hk : k < (bs.take n).length := by rw [len_take hn]; omega
    have hk' : k < bs.length := by omega
    cases hp : p (B bs k)
    · rw [upTo_out hk (by rw [B_take (by omega)]; exact hp), upTo_out hk' hp]
      omega
    · rw [upTo_in hk (by rw [B_take (by omega)]; exact hp), upTo_in hk' hp]
      exact upTo_take p bs n hn d (k + 1) (by omega)

theorem txb_take {bs : List UInt8} {n k : Nat} (hn : n ≤ bs.length) (hk : k < n) (h : (txb bs k).2.2 ≤ n) : txb (bs.take n) k = txb bs k := by
  unfold txb at h ⊢
  rw [B_take hk, len_take hn]
  by_cases h92 : (B bs k == 92) = true
  · rw [if_pos h92] at h ⊢
    rw [if_pos h92]
    by_cases h1 : k + 1 < bs.length
    · rw [if_pos h1] at h
      have h2 : k + 1 < n := by
        by_cases c : (B bs (k + 1) == 110) = true
        · rw [if_pos c] at h; simp at h; omega
        · rw [if_neg c] at h; simp at h; omega
      rw [if_pos h2, if_pos h1, B_take h2]
    · rw [if_neg h1, if_neg (by omega)]
  · rw [if_neg h92, if_neg h92]
theorem txb_cut {bs : List UInt8} {n k : Nat} (hn : n ≤ bs.length) (hk : k < n) (h : n < (txb bs k).2.2) : (txb (bs.take n) k).2.1 = false := by
  unfold txb at h ⊢
  rw [B_take hk, len_take hn]
  by_cases h92 : (B bs k == 92) = true
  · rw [if_pos h92] at h ⊢
    by_cases h1 : k + 1 < n
    · exfalso
      by_cases h2 : k + 1 < bs.length
      · rw [if_pos h2] at h
        by_cases c : (B bs (k + 1) == 110) = true
        · rw [if_pos c] at h; simp at h; omega
        · rw [if_neg c] at h; simp at h; omega
      · omega
    · rw [if_neg h1]
  · rw [if_neg h92] at h
    simp at h
    omega

theorem txt_take (bs : List UInt8) (n : Nat) (hn : n ≤ bs.length) : ∀ (f f' k : Nat) (acc s : List UInt8) (j : Nat), k ≤ n → n - k < f' → txt bs f k acc = some (s, j) →
    (j ≤ n → txt (bs.take n) f' k acc = some (s, j)) ∧ (n < j → txt (bs.take n) f' k acc = none)
  | 0, f', k, acc, s, j => fun _ _ h => by simp [txt] at h
  | f + 1, f', k, acc, s, j => fun hk hf h => by
    obtain ⟨f2, rfl⟩ : ∃ f2, f' = f2 + 1 := ⟨f' - 1, by omega⟩
    have hj := txt_clean bs (f + 1) k acc s j (by omega) h
    unfold txt at h
    have hkl : k < bs.length := by omega
    rw [if_pos hkl] at h
    by_cases hkn : k < n
    · have hk' : k < (bs.take n).length := by rw [len_take hn]; exact hkn
      by_cases h34 : (B bs k == 34) = true
      · rw [if_pos h34] at h
        cases h
        refine ⟨fun _ => ?_, fun h => by omega⟩
        unfold txt
        rw [if_pos hk', B_take hkn, if_pos h34]
      · rw [if_neg h34] at h
        by_cases hc : ((txb bs k).2.1 && !(acc.length == 64)) = true
        · rw [if_pos hc] at h
          have hl := txb_lt bs k hkl
          by_cases h2 : (txb bs k).2.2 ≤ n
          · have ih := txt_take bs n hn f f2 (txb bs k).2.2 (acc ++ [byteOf (txb bs k).1]) s j h2 (by omega) h
            have e : txt (bs.take n) (f2 + 1) k acc = txt (bs.take n) f2 (txb bs k).2.2 (acc ++ [byteOf (txb bs k).1]) := by
              conv => lhs; unfold txt
              rw [if_pos hk', B_take hkn, if_neg h34, txb_take hn hkn h2, if_pos hc]
            rw [e]
            exact ih
          · have hj2 := txt_clean bs f _ _ s j hl.2 h
            refine ⟨fun h => by omega, fun _ => ?_⟩
            unfold txt
            rw [if_pos hk', B_take hkn, if_neg h34, if_neg (by rw [txb_cut hn hkn (by omega)]; simp)]
        · rw [if_neg hc] at h
          cases h
    · refine ⟨fun h => by omega, fun _ => ?_⟩
      unfold txt
      rw [if_neg (by rw [len_take hn]; exact hkn)]

theorem parse_pre : ∀ (a r : List UInt8) (acc u : Nat), Lib.parseUint10 acc (a ++ r) = .ok u → ∃ u', Lib.parseUint10 acc a = .ok u' ∧ u' ≤ u
  | [], r, acc, u => fun h => by
    refine ⟨acc, rfl, ?_⟩
    rw [List.nil_append] at h
    clear parse_pre
    induction r generalizing acc with
    | nil => simp [Lib.parseUint10] at h; omega
    | cons c r ih =>
      unfold Lib.parseUint10 at h
      split at h
      · split at h
        · cases h
        · split at h
          · cases h
          · have := ih _ h
            omega
      · cases h
  | c :: a, r, acc, u => fun h => by
    rw [List.cons_append] at h
    unfold Lib.parseUint10 at h ⊢
    by_cases h1 : 48 ≤ c.toNat ∧ c.toNat ≤ 57
    · rw [if_pos h1] at h ⊢
      by_cases h2 : 1844674407370955162 ≤ acc
      · rw [if_pos h2] at h; cases h
      · rw [if_neg h2] at h ⊢
        by_cases h3 : 18446744073709551616 ≤ acc * 10 + (c.toNat - 48)
        · rw [if_pos h3] at h; cases h
        · rw [if_neg h3] at h ⊢
          exact parse_pre a r _ u h
    · rw [if_neg h1] at h; cases h

/-- A beginning of a number is a number. -/
theorem numOf_pre {c : UInt8} {a r : List UInt8} {v : Int} (hc : digitB (c.toNat : Int) = true) (h : numOf (c :: a ++ r) = some v) : ∃ v', numOf (c :: a) = some v' := by
  have hd : 48 ≤ c.toNat ∧ c.toNat ≤ 57 := by unfold digitB at hc; simp at hc; omega
  unfold numOf at h ⊢
  rw [Lib.parseIntB_64] at h ⊢
  rw [List.cons_append, Lib.atoiAll_plain c _ (by omega) (by omega)] at h
  rw [Lib.atoiAll_plain c _ (by omega) (by omega)]
  have e1 : Lib.parseMag (c :: (a ++ r)) = Lib.parseUint10 0 (c :: a ++ r) := by simp [Lib.parseMag]
  have e2 : Lib.parseMag (c :: a) = Lib.parseUint10 0 (c :: a) := by simp [Lib.parseMag]
  rw [e1] at h
  rw [e2]
  cases hp : Lib.parseUint10 0 (c :: a ++ r) with
  | ok u =>
    rw [hp] at h
    obtain ⟨u', h1, h2⟩ := parse_pre (c :: a) r 0 u hp
    rw [h1]
    unfold Lib.signless at h ⊢
    by_cases hb : 9223372036854775808 ≤ u
    · simp [hb] at h
    · have hb' : ¬ 9223372036854775808 ≤ u' := by omega
      simp [hb']
  | _ => rw [hp] at h; simp [Lib.signless] at h

theorem sub_cons {bs : List UInt8} {i j : Nat} (h1 : i < j) (h2 : j ≤ bs.length) : ∃ c, sub bs i j = c :: sub bs (i + 1) j ∧ (c.toNat : Int) = B bs i := by
  obtain ⟨c, hd⟩ : ∃ c, bs.drop i = c :: bs.drop (i + 1) := ⟨bs[i], List.drop_eq_getElem_cons (by omega)⟩
  refine ⟨c, ?_, ?_⟩
  · unfold sub
    rw [hd, show j - i = (j - (i + 1)) + 1 from by omega, List.take_succ_cons]
  · unfold B
    have : bs[i]? = some c := by
      have := congrArg (fun l => l[0]?) hd
      simpa using this
    rw [this]
    rfl
theorem sub_split {bs : List UInt8} {i m j : Nat} (h1 : i ≤ m) (h2 : m ≤ j) : sub bs i j = sub bs i m ++ sub bs m j := by
  unfold sub
  have e : bs.drop m = (bs.drop i).drop (m - i) := by rw [List.drop_drop]; congr 1; omega
  rw [e, show j - i = (m - i) + (j - m) from by omega, List.take_add]

theorem oneWord_take {bs : List UInt8} {n k j : Nat} {t : Tk} (hn : n ≤ bs.length) (hk : k < n) (h : oneWord bs k = .ok (t, j)) :
    (j ≤ n → oneWord (bs.take n) k = .ok (t, j)) ∧ (n < j → ∃ t', oneWord (bs.take n) k = .ok (t', n)) := by
  have hu := upTo_take innerB bs n hn (n - k) k (by omega)
  have hl := sub_length (bs := bs) (upTo_le innerB bs k) (upTo_len innerB (by omega))
  have hj : j = upTo innerB bs k ∧ (sub bs k (upTo innerB bs k)).length ≤ 32 := by
    unfold oneWord at h
    split at h
    · rename_i hw
      cases h
      have := wordB_short hw
      exact ⟨rfl, by omega⟩
    · split at h
      · cases h
      · cases h; exact ⟨rfl, by omega⟩
  obtain ⟨rfl, h32⟩ := hj
  refine ⟨fun hjn => ?_, fun hjn => ?_⟩
  · rw [Nat.min_eq_left hjn] at hu
    unfold oneWord at h ⊢
    rw [hu, sub_take hjn]
    exact h
  · rw [Nat.min_eq_right (by omega)] at hu
    have hl2 := sub_length (bs := bs) (show k ≤ n by omega) hn
    unfold oneWord
    rw [hu, sub_take (Nat.le_refl n)]
    cases hw : wordB (sub bs k n)
    · rw [if_neg Bool.false_ne_true, if_neg (by omega)]
      exact ⟨_, rfl⟩
    · rw [if_pos rfl]
      exact ⟨_, rfl⟩

theorem oneNum_take {bs : List UInt8} {n k j : Nat} {t : Tk} (hn : n ≤ bs.length) (hk : k < n) (hd : digitB (B bs k) = true) (h : oneNum bs k = .ok (t, j)) :
    (j ≤ n → oneNum (bs.take n) k = .ok (t, j)) ∧ (n < j → ∃ t', oneNum (bs.take n) k = .ok (t', n)) := by
  have hu := upTo_take innerB bs n hn (n - k) k (by omega)
  have hup := upTo_len innerB (bs := bs) (k := k) (by omega)
  unfold oneNum at h
  by_cases h48 : (B bs k == 48) = true ∧ k + 1 < upTo innerB bs k
  · rw [if_pos h48] at h; cases h
  · rw [if_neg h48] at h
    cases hv : numOf (sub bs k (upTo innerB bs k)) with
    | none => rw [hv] at h; cases h
    | some v =>
      rw [hv] at h
      cases h
      refine ⟨fun hjn => ?_, fun hjn => ?_⟩
      · rw [Nat.min_eq_left hjn] at hu
        unfold oneNum
        rw [hu, sub_take hjn, B_take hk, if_neg h48, hv]
      · rw [Nat.min_eq_right (by omega)] at hu
        unfold oneNum
        have h48' : ¬ ((B bs k == 48) = true ∧ k + 1 < n) := fun e => h48 ⟨e.1, by omega⟩
        obtain ⟨c, hc, hcB⟩ := sub_cons hk hn
        rw [sub_split (show k ≤ n by omega) (show n ≤ upTo innerB bs k by omega), hc] at hv
        obtain ⟨v', hv'⟩ := numOf_pre (by rw [hcB]; exact hd) hv
        rw [hu, sub_take (Nat.le_refl n), B_take hk, if_neg h48', hc, hv']
        exact ⟨_, rfl⟩

theorem oneText_take {bs : List UInt8} {n k j : Nat} {t : Tk} (hn : n ≤ bs.length) (hk : k < n) (h : oneText bs k = .ok (t, j)) :
    (j ≤ n → oneText (bs.take n) k = .ok (t, j)) ∧ (n < j → oneText (bs.take n) k = .error 14) := by
  unfold oneText at h
  cases hx : textAt bs k with
  | none => rw [hx] at h; cases h
  | some r =>
    obtain ⟨s, j'⟩ := r
    rw [hx] at h
    cases h
    have := txt_take bs n hn (bs.length + 1) ((bs.take n).length + 1) (k + 1) [] s j (by omega) (by rw [len_take hn]; omega) hx
    exact ⟨fun hj => oneText_some (this.1 hj), fun hj => oneText_none (this.2 hj)⟩

theorem long_short {bs : List UInt8} {k : Nat} (h2 : k + 2 ≤ bs.length) (h : longB (sub bs k (k + 2)) = true) : shortB (B bs k) = true := by
  obtain ⟨c, hc, hcB⟩ := sub_cons (bs := bs) (i := k) (j := k + 2) (by omega) h2
  rw [hc] at h
  rw [← hcB]
  unfold shortB
  have e : byteOf (c.toNat : Int) = c := by unfold byteOf; simp
  rw [e]
  unfold longB longs at h
  simp at h
  rcases h with h | h | h | h | h <;> (rw [h.1]; decide)

theorem oneMark_take {bs : List UInt8} {n k j : Nat} {t : Tk} (hn : n ≤ bs.length) (hk : k < n) (h : oneMark bs k = .ok (t, j)) :
    (j ≤ n → oneMark (bs.take n) k = .ok (t, j)) ∧ (n < j → ∃ t', oneMark (bs.take n) k = .ok (t', n)) := by
  unfold oneMark at h
  by_cases h2 : k + 2 ≤ bs.length ∧ longB (sub bs k (k + 2)) = true
  · rw [if_pos h2] at h
    cases h
    refine ⟨fun hj => ?_, fun hj => ?_⟩
    · unfold oneMark
      rw [len_take hn, sub_take hj, if_pos ⟨hj, h2.2⟩]
    · obtain rfl : n = k + 1 := by omega
      unfold oneMark
      rw [len_take hn, if_neg (by omega), B_take (by omega), if_pos (long_short h2.1 h2.2)]
      exact ⟨_, rfl⟩
  · rw [if_neg h2] at h
    by_cases hs : shortB (B bs k) = true
    · rw [if_pos hs] at h
      cases h
      refine ⟨fun hj => ?_, fun hj => by omega⟩
      unfold oneMark
      have h2' : ¬ (k + 2 ≤ n ∧ longB (sub (bs.take n) k (k + 2)) = true) := fun e => h2 ⟨by omega, by rw [← sub_take e.1]; exact e.2⟩
      rw [len_take hn, if_neg h2', B_take hk, if_pos hs, sub_take hj]
    · rw [if_neg hs] at h
      cases h

theorem one_take {bs : List UInt8} {n k j : Nat} {t : Tk} (hn : n ≤ bs.length) (hk : k < n) (h : one bs k = .ok (t, j)) :
    (j ≤ n → one (bs.take n) k = .ok (t, j)) ∧ (n < j → one (bs.take n) k = .error 14 ∨ ∃ t', one (bs.take n) k = .ok (t', n)) := by
  unfold one at h ⊢
  rw [B_take hk]
  by_cases h1 : letterB (B bs k) = true
  · rw [if_pos h1] at h ⊢
    have := oneWord_take hn hk h
    exact ⟨this.1, fun e => Or.inr (this.2 e)⟩
  · rw [if_neg h1] at h ⊢
    by_cases h2 : digitB (B bs k) = true
    · rw [if_pos h2] at h ⊢
      have := oneNum_take hn hk h2 h
      exact ⟨this.1, fun e => Or.inr (this.2 e)⟩
    · rw [if_neg h2] at h ⊢
      by_cases h3 : (B bs k == 34) = true
      · rw [if_pos h3] at h ⊢
        have := oneText_take hn hk h
        exact ⟨this.1, fun e => Or.inl (this.2 e)⟩
      · rw [if_neg h3] at h ⊢
        have := oneMark_take hn hk h
        exact ⟨this.1, fun e => Or.inr (this.2 e)⟩

/-- What a beginning says, beside the whole. -/
def CutR (r : Except (Int × Nat) (List (Tk × Nat))) (l : List (Tk × Nat)) : Prop :=
  ∃ m, m ≤ l.length ∧ (r = .ok (l.take m) ∨ ∃ t p, l[m]? = some (t, p) ∧ (r = .error (14, p) ∨ ∃ t', r = .ok (l.take m ++ [(t', p)])))

theorem toks_at_end {bs : List UInt8} {n f : Nat} (hn : n ≤ bs.length) : toks (bs.take n) f n = .ok [] := by
  cases f with
  | zero => rfl
  | succ f => exact toks_end (by rw [len_take hn]; omega)

theorem toks_take (bs : List UInt8) (n : Nat) (hn : n ≤ bs.length) : ∀ (f f' k : Nat) (l : List (Tk × Nat)), k ≤ n → bs.length - k < f → n - k < f' → toks bs f k = .ok l → CutR (toks (bs.take n) f' k) l
  | 0, f', k, l => fun _ h => by omega
  | f + 1, f', k, l => fun hk hf hf' h => by
    by_cases hkn : k < n
    · obtain ⟨g, rfl⟩ : ∃ g, f' = g + 1 := ⟨f' - 1, by omega⟩
      have hkl : k < bs.length := by omega
      have hk' : k < (bs.take n).length := by rw [len_take hn]; exact hkn
      by_cases h35 : (B bs k == 35) = true
      · rw [toks_remark hkl h35] at h
        rw [toks_remark hk' (by rw [B_take hkn]; exact h35)]
        have e1 := upTo_take notTen bs n hn (n - k) k (by omega)
        have l1 := upTo_le notTen bs k
        have l1' : k < upTo notTen bs k := upTo_lt hkl (by simp at h35; simp [notTen, h35])
        have l2 := upTo_le blankB bs (upTo notTen bs k)
        by_cases ha : upTo notTen bs k ≤ n
        · rw [Nat.min_eq_left ha] at e1
          have e2 := upTo_take blankB bs n hn (n - upTo notTen bs k) (upTo notTen bs k) (by omega)
          rw [e1, e2]
          by_cases hb : upTo blankB bs (upTo notTen bs k) ≤ n
          · rw [Nat.min_eq_left hb]
            exact toks_take bs n hn f g _ l hb (by omega) (by omega) h
          · rw [Nat.min_eq_right (by omega), toks_at_end hn]
            exact ⟨0, Nat.zero_le _, Or.inl (by simp)⟩
        · rw [Nat.min_eq_right (by omega)] at e1
          rw [e1, upTo_end (by rw [len_take hn]; exact Nat.le_refl n), toks_at_end hn]
          exact ⟨0, Nat.zero_le _, Or.inl (by simp)⟩
      · have h35' : (B bs k == 35) = false := by simpa using h35
        by_cases hb : blankB (B bs k) = true
        · rw [toks_blank hkl h35' hb] at h
          rw [toks_blank hk' (by rw [B_take hkn]; exact h35') (by rw [B_take hkn]; exact hb)]
          have e2 := upTo_take blankB bs n hn (n - k) k (by omega)
          have l1' : k < upTo blankB bs k := upTo_lt hkl hb
          rw [e2]
          by_cases hb : upTo blankB bs k ≤ n
          · rw [Nat.min_eq_left hb]
            exact toks_take bs n hn f g _ l hb (by omega) (by omega) h
          · rw [Nat.min_eq_right (by omega), toks_at_end hn]
            exact ⟨0, Nat.zero_le _, Or.inl (by simp)⟩
        · have hb' : blankB (B bs k) = false := by simpa using hb
          cases h1 : one bs k with
          | error e => rw [toks_err hkl h35' hb' h1] at h; cases h
          | ok r =>
            obtain ⟨t, j⟩ := r
            have h2 := toks_ok (f := f) [] hkl h35' hb' h1
            rw [h, ahead_nil] at h2
            have hj := one_ok hkl h1
            cases h3 : toks bs f j with
            | error e => rw [h3] at h2; simp [ahead] at h2
            | ok l' =>
              rw [h3] at h2
              simp [ahead] at h2
              subst h2
              have ot := one_take hn hkn h1
              have b35 : (B (bs.take n) k == 35) = false := by rw [B_take hkn]; exact h35'
              have bbl : blankB (B (bs.take n) k) = false := by rw [B_take hkn]; exact hb'
              by_cases hjn : j ≤ n
              · have h4 := toks_ok (f := g) [] hk' b35 bbl (ot.1 hjn)
                rw [ahead_nil] at h4
                rw [h4]
                obtain ⟨m, hm, hr⟩ := toks_take bs n hn f g j l' hjn (by omega) (by omega) h3
                refine ⟨m + 1, by simp; omega, ?_⟩
                rcases hr with hr | ⟨t1, p, hp, hr | ⟨t', hr⟩⟩
                · rw [hr]; left; simp [ahead]
                · rw [hr]; right; exact ⟨t1, p, by simpa using hp, Or.inl rfl⟩
                · rw [hr]; right; exact ⟨t1, p, by simpa using hp, Or.inr ⟨t', by simp [ahead]⟩⟩
              · rcases ot.2 (by omega) with he | ⟨t', ho⟩
                · rw [toks_err hk' b35 bbl he]
                  exact ⟨0, Nat.zero_le _, Or.inr ⟨t, k, rfl, Or.inl rfl⟩⟩
                · have h4 := toks_ok (f := g) [] hk' b35 bbl ho
                  rw [ahead_nil, toks_at_end hn] at h4
                  rw [h4]
                  exact ⟨0, Nat.zero_le _, Or.inr ⟨t, k, rfl, Or.inr ⟨t', rfl⟩⟩⟩
    · obtain rfl : k = n := by omega
      rw [toks_at_end hn]
      exact ⟨0, Nat.zero_le _, Or.inl (by simp)⟩

theorem all_take {bs : List UInt8} {n : Nat} (hn : n ≤ bs.length) {l : List (Tk × Nat)} (h : all bs = .ok l) : CutR (all (bs.take n)) l := by
  unfold all at h ⊢
  exact toks_take bs n hn _ _ 0 l (Nat.zero_le _) (by omega) (by rw [len_take hn]; omega) h

theorem lnTo_take (bs : List UInt8) (n : Nat) : ∀ k, k ≤ n → lnTo (bs.take n) k = lnTo bs k ∧ stTo (bs.take n) k = stTo bs k
  | 0 => fun _ => ⟨rfl, rfl⟩
  | k + 1 => fun h => by
    have ih := lnTo_take bs n k (by omega)
    unfold lnTo stTo
    rw [B_take (by omega), ih.1, ih.2]
    exact ⟨rfl, rfl⟩
end Tx
end Go.Proofs.YtjddbiabkobfoaaDoor
