/- Plain facts: a token that was cut out of a source is read again wherever it is put, with a blank or nothing behind it; tokens written one behind the other, with gaps between, are read as they were; what a token is written as is what it was cut out of. Nothing of the program is named here. -/
import Derived.Test.YtjddbiabkobfoaaDoorCutSpec
import Derived.Test.YtjddbiabkobfoaaDoorRefTk
import Derived.Test.YtjddbiabkobfoaaDoorRefPlain
import Derived.Test.YtjddbiabkobfoaaDoorQSpec
namespace Go.Proofs.YtjddbiabkobfoaaDoor
namespace Tx

/-- The same bytes at two places, and a blank or nothing behind the second. -/
structure Same (bs : List UInt8) (k : Nat) (cs : List UInt8) (q n : Nat) : Prop where
  eq : sub cs q (q + n) = sub bs k (k + n)
  len : q + n ≤ cs.length
  len' : k + n ≤ bs.length
  stop : q + n < cs.length → blankB (B cs (q + n)) = true
theorem Same.at {bs cs : List UInt8} {k q n i : Nat} (h : Same bs k cs q n) (hi : i < n) : B cs (q + i) = B bs (k + i) := by
  have h1 : i < (sub cs q (q + n)).length := by rw [sub_length (by omega) h.len]; omega
  have h2 : i < (sub bs k (k + n)).length := by rw [sub_length (by omega) h.len']; omega
  have e1 := sub_get h1
  have e2 := sub_get h2
  rw [← e1, ← e2]
  congr 2
  simp only [h.eq]
theorem blank_inner {c : Int} (h : blankB c = true) : innerB c = false := by
  unfold blankB at h
  simp at h
  rcases h with ((rfl | rfl) | rfl) | rfl <;> decide
theorem upTo_eq {p : Int → Bool} {cs : List UInt8} {q : Nat} : ∀ n, (∀ i, i < n → p (B cs (q + i)) = true) → q + n ≤ cs.length → (q + n < cs.length → p (B cs (q + n)) = false) → upTo p cs q = q + n := by
  intro n
  induction n generalizing q with
  | zero =>
    intro _ hl hs
    by_cases h : q < cs.length
    · exact upTo_out h (hs h)
    · exact upTo_end (by omega)
  | succ n ih =>
    intro ha hl hs
    have h0 : p (B cs q) = true := by simpa using ha 0 (by omega)
    rw [upTo_in (by omega) h0, ih (q := q + 1) (fun i hi => by rw [show q + 1 + i = q + (i + 1) by omega]; exact ha (i + 1) (by omega)) (by omega) (fun h => by rw [show q + 1 + n = q + (n + 1) by omega]; exact hs (by omega))]
    omega
theorem Same.inner {bs cs : List UInt8} {k q n : Nat} (h : Same bs k cs q n) (hk : upTo innerB bs k = k + n) : upTo innerB cs q = q + n :=
  upTo_eq n (fun i hi => by rw [h.at hi]; exact (upTo_all innerB bs k (k + i) (by omega) (by omega)).1) h.len (fun hl => blank_inner (h.stop hl))
theorem Same.word {bs cs : List UInt8} {k q n : Nat} {t : Tk} (h : Same bs k cs q n) (ho : oneWord bs k = .ok (t, k + n)) : oneWord cs q = .ok (t, q + n) := by
  have hu : upTo innerB bs k = k + n := by
    unfold oneWord at ho
    split at ho
    · exact (Prod.mk.inj (Except.ok.inj ho)).2
    · split at ho
      · cases ho
      · exact (Prod.mk.inj (Except.ok.inj ho)).2
  have hc := h.inner hu
  unfold oneWord at ho ⊢
  rw [hu] at ho
  rw [hc, h.eq]
  split at ho
  · rename_i e; rw [if_pos e]; cases ho; rfl
  · rename_i e
    rw [if_neg e]
    split at ho
    · cases ho
    · rename_i e2; rw [if_neg e2]; cases ho; rfl
theorem Same.num {bs cs : List UInt8} {k q n : Nat} {t : Tk} (h : Same bs k cs q n) (hn : 0 < n) (ho : oneNum bs k = .ok (t, k + n)) : oneNum cs q = .ok (t, q + n) := by
  have hb : B cs q = B bs k := h.at (i := 0) hn
  unfold oneNum at ho
  by_cases h48 : (B bs k == 48) = true ∧ k + 1 < upTo innerB bs k
  · rw [if_pos h48] at ho; cases ho
  · rw [if_neg h48] at ho
    cases hv : numOf (sub bs k (upTo innerB bs k)) with
    | none => rw [hv] at ho; cases ho
    | some v =>
      rw [hv] at ho
      have hu : upTo innerB bs k = k + n := (Prod.mk.inj (Except.ok.inj ho)).2
      rw [hu] at ho
      have hc := h.inner hu
      rw [hu] at h48 hv
      unfold oneNum
      rw [hc, hb, if_neg (fun e => h48 ⟨e.1, by omega⟩), h.eq, hv]
      cases ho
      rfl
theorem txt_far (bs cs : List UInt8) : ∀ (f f' k q : Nat) (acc s : List UInt8) (j : Nat), k ≤ bs.length → txt bs f k acc = some (s, j) → (∀ i, k + i < j → B cs (q + i) = B bs (k + i)) → q + (j - k) ≤ cs.length → cs.length - q < f' → txt cs f' q acc = some (s, q + (j - k))
  | 0, f', k, q, acc, s, j => fun _ h => by simp [txt] at h
  | f + 1, f', k, q, acc, s, j => fun hkl h hs hl hf => by
    obtain ⟨f', rfl⟩ : ∃ e, f' = e + 1 := ⟨f' - 1, by omega⟩
    have hc := txt_clean bs _ k acc s j hkl h
    have hq : q < cs.length := by omega
    have hb : B cs q = B bs k := hs 0 (by omega)
    unfold txt at h ⊢
    rw [if_pos hq, hb]
    by_cases hk : k < bs.length
    · rw [if_pos hk] at h
      by_cases h34 : (B bs k == 34) = true
      · rw [if_pos h34] at h ⊢
        simp at h
        obtain ⟨rfl, rfl⟩ := h
        congr 2
        omega
      · rw [if_neg h34] at h ⊢
        by_cases hg : ((txb bs k).2.1 && !(acc.length == 64)) = true
        · rw [if_pos hg] at h
          have hlt := txb_lt bs k hk
          have hc2 := txt_clean bs _ _ _ s j hlt.2 h
          have hx : txb cs q = ((txb bs k).1, (txb bs k).2.1, q + ((txb bs k).2.2 - k)) := by
            unfold txb
            rw [hb]
            by_cases h92 : (B bs k == 92) = true
            · rw [if_pos h92, if_pos h92]
              by_cases hk1 : k + 1 < bs.length
              · have h1 : (txb bs k).2.2 = k + 2 := by
                  unfold txb; rw [if_pos h92, if_pos hk1]; split <;> rfl
                have hb1 : B cs (q + 1) = B bs (k + 1) := hs 1 (by omega)
                rw [if_pos hk1, if_pos (show q + 1 < cs.length by omega), hb1]
                by_cases h110 : (B bs (k + 1) == 110) = true
                · rw [if_pos h110]
                  rw [if_pos h110]
                  refine Prod.ext rfl (Prod.ext rfl ?_); simp
                · rw [if_neg h110]
                  rw [if_neg h110]
                  refine Prod.ext rfl (Prod.ext rfl ?_); simp
              · exfalso
                have : (txb bs k).2.1 = false := by unfold txb; rw [if_pos h92, if_neg hk1]
                rw [this] at hg
                simp at hg
            · rw [if_neg h92, if_neg h92]
              refine Prod.ext rfl (Prod.ext rfl ?_); simp
          rw [hx]
          simp only []
          rw [if_pos hg]
          have := txt_far bs cs f f' (txb bs k).2.2 (q + ((txb bs k).2.2 - k)) _ s j hlt.2 h (fun i hi => by
            rw [show q + ((txb bs k).2.2 - k) + i = q + ((txb bs k).2.2 - k + i) by omega, hs _ (by omega)]
            congr 1; omega) (by omega) (by omega)
          rw [this]
          congr 2
          omega
        · rw [if_neg hg] at h; cases h
    · rw [if_neg hk] at h; cases h
theorem Same.text {bs cs : List UInt8} {k q n : Nat} {t : Tk} (h : Same bs k cs q n) (hk : k < bs.length) (ho : oneText bs k = .ok (t, k + n)) : oneText cs q = .ok (t, q + n) := by
  unfold oneText at ho
  cases hx : textAt bs k with
  | none => rw [hx] at ho; cases ho
  | some r =>
    obtain ⟨s, j⟩ := r
    rw [hx] at ho
    simp at ho
    obtain ⟨rfl, rfl⟩ := ho
    have hc := txt_clean bs _ (k + 1) [] s _ (by omega) hx
    refine oneText_some ?_
    have := txt_far bs cs _ (cs.length + 1) (k + 1) (q + 1) [] s (k + n) (by omega) hx (fun i hi => by
      have := h.at (i := i + 1) (by omega)
      rw [show q + 1 + i = q + (i + 1) by omega, show k + 1 + i = k + (i + 1) by omega]; exact this) (by have := h.len; omega) (by omega)
    unfold textAt
    rw [this]
    congr 2
    omega
theorem Same.mark {bs cs : List UInt8} {k q n : Nat} {t : Tk} (h : Same bs k cs q n) (hn : 0 < n) (ho : oneMark bs k = .ok (t, k + n)) : oneMark cs q = .ok (t, q + n) := by
  have hb : B cs q = B bs k := h.at (i := 0) hn
  unfold oneMark at ho
  by_cases h2 : k + 2 ≤ bs.length ∧ longB (sub bs k (k + 2)) = true
  · rw [if_pos h2] at ho
    simp at ho
    obtain ⟨rfl, hn2⟩ := ho
    obtain rfl : n = 2 := by omega
    unfold oneMark
    rw [h.eq, if_pos ⟨h.len, h2.2⟩]
  · rw [if_neg h2] at ho
    by_cases hs : shortB (B bs k) = true
    · rw [if_pos hs] at ho
      simp at ho
      obtain ⟨rfl, hn1⟩ := ho
      obtain rfl : n = 1 := by omega
      have h2' : ¬ (q + 2 ≤ cs.length ∧ longB (sub cs q (q + 2)) = true) := by
        rintro ⟨e1, e2⟩
        have hbl := h.stop (by omega)
        obtain ⟨c, hc, _⟩ := sub_cons (bs := cs) (i := q) (j := q + 2) (by omega) e1
        obtain ⟨c', hc', hcB'⟩ := sub_cons (bs := cs) (i := q + 1) (j := q + 2) (by omega) e1
        have h0 : sub cs (q + 2) (q + 2) = [] := by unfold sub; simp
        rw [hc, hc', show q + 1 + 1 = q + 2 by omega, h0] at e2
        rw [← hcB'] at hbl
        unfold longB longs at e2
        simp at e2
        rcases e2 with e | e | e | e | e <;> (rw [e.2] at hbl; exact absurd hbl (by decide))
      unfold oneMark
      rw [if_neg h2', hb, if_pos hs, h.eq]
    · rw [if_neg hs] at ho; cases ho
/-- A token is read again wherever its bytes are put. -/
theorem Same.one {bs cs : List UInt8} {k q n : Nat} {t : Tk} (h : Same bs k cs q n) (hk : k < bs.length) (ho : one bs k = .ok (t, k + n)) : one cs q = .ok (t, q + n) := by
  have hn : 0 < n := by have := (one_ok hk ho).1; omega
  have hb : B cs q = B bs k := h.at (i := 0) hn
  unfold Tx.one at ho ⊢
  rw [hb]
  by_cases h1 : letterB (B bs k) = true
  · rw [if_pos h1] at ho ⊢; exact h.word ho
  · rw [if_neg h1] at ho ⊢
    by_cases h2 : digitB (B bs k) = true
    · rw [if_pos h2] at ho ⊢; exact h.num hn ho
    · rw [if_neg h2] at ho ⊢
      by_cases h3 : (B bs k == 34) = true
      · rw [if_pos h3] at ho ⊢; exact h.text hk ho
      · rw [if_neg h3] at ho ⊢; exact h.mark hn ho
end Tx
end Go.Proofs.YtjddbiabkobfoaaDoor
namespace Go.Proofs.YtjddbiabkobfoaaDoor
namespace Tx

theorem B_app (pre x : List UInt8) (i : Nat) : B (pre ++ x) (pre.length + i) = B x i := by
  unfold B
  rw [List.getElem?_append_right (by omega), Nat.add_sub_cancel_left]
theorem sub_app (pre p r : List UInt8) : sub (pre ++ (p ++ r)) pre.length (pre.length + p.length) = p := by
  unfold sub
  rw [List.drop_left, Nat.add_sub_cancel_left, List.take_left]

theorem tk_skip : ∀ (g pre r : List UInt8), (∀ c ∈ g, blankB (c.toNat : Int) = true) → tk (pre ++ (g ++ r)) pre.length = tk (pre ++ (g ++ r)) (pre.length + g.length)
  | [], pre, r => fun _ => by simp
  | c :: g, pre, r => fun h => by
    have hb : B (pre ++ (c :: g ++ r)) pre.length = (c.toNat : Int) := B_mid pre c (g ++ r)
    rw [tk_blank (by simp) (by rw [hb]; exact h c (by simp))]
    have e : pre ++ (c :: g ++ r) = (pre ++ [c]) ++ (g ++ r) := by simp
    have := tk_skip g (pre ++ [c]) r (fun d hd => h d (by simp [hd]))
    rw [e]
    rw [show (pre ++ [c]).length = pre.length + 1 by simp] at this
    rw [this]
    congr 1
    simp; omega
/-- The remark that is put between. -/
def rem : List UInt8 := [35, 108, 101, 116, 32, 34, 10]
theorem tk_rem (pre r : List UInt8) : tk (pre ++ (rem ++ r)) pre.length = tk (pre ++ (rem ++ r)) (pre.length + 7) := by
  have hB : ∀ i, i < 7 → B (pre ++ (rem ++ r)) (pre.length + i) = B rem i := fun i hi => by
    rw [B_app]
    unfold B
    rw [List.getElem?_append_left (by simpa [rem] using hi)]
  have hl : pre.length + 7 ≤ (pre ++ (rem ++ r)).length := by simp [rem]
  have h0 : B (pre ++ (rem ++ r)) pre.length = 35 := by have := hB 0 (by omega); rw [Nat.add_zero] at this; rw [this]; decide
  rw [tk_remark (by omega) (by rw [h0]; decide)]
  rw [upTo_eq (p := notTen) 6 (fun i hi => by
    rw [hB i (by omega)]
    match i, hi with
    | 0, _ => decide
    | 1, _ => decide
    | 2, _ => decide
    | 3, _ => decide
    | 4, _ => decide
    | 5, _ => decide) (by omega) (fun _ => by rw [hB 6 (by omega)]; decide)]
  exact tk_blank (by omega) (by rw [hB 6 (by omega)]; decide)

/-- What may stand between two tokens. -/
def Gap (g : List UInt8) : Prop := (∃ c r, g = c :: r ∧ blankB (c.toNat : Int) = true) ∧ ∀ pre r : List UInt8, tk (pre ++ (g ++ r)) pre.length = tk (pre ++ (g ++ r)) (pre.length + g.length)
theorem gap_blanks {g : List UInt8} (h0 : g ≠ []) (h : ∀ c ∈ g, blankB (c.toNat : Int) = true) : Gap g := by
  obtain ⟨c, r, rfl⟩ := List.exists_cons_of_ne_nil h0
  exact ⟨⟨c, r, rfl, h c (by simp)⟩, fun pre r' => tk_skip _ pre r' h⟩
theorem gap_rem {g : List UInt8} (h0 : g ≠ []) (h : ∀ c ∈ g, blankB (c.toNat : Int) = true) : Gap (g ++ rem) := by
  obtain ⟨c, r, rfl⟩ := List.exists_cons_of_ne_nil h0
  refine ⟨⟨c, r ++ rem, rfl, h c (by simp)⟩, fun pre r' => ?_⟩
  have h1 := tk_skip (c :: r) pre (rem ++ r') h
  have h2 := tk_rem (pre ++ (c :: r)) r'
  have e1 : pre ++ (c :: r ++ rem ++ r') = pre ++ (c :: r ++ (rem ++ r')) := by simp
  have e2 : pre ++ (c :: r ++ rem ++ r') = (pre ++ (c :: r)) ++ (rem ++ r') := by simp
  rw [← e1] at h1
  rw [← e2] at h2
  rw [h1]
  rw [show (pre ++ (c :: r)).length = pre.length + (c :: r).length by simp] at h2
  rw [h2]
  congr 1
  simp [rem]; omega

/-- The bytes of a token of some source. -/
def Far (p : List UInt8) (t : Tk) : Prop := ∃ bs k, k + p.length ≤ bs.length ∧ k < bs.length ∧ one bs k = .ok (t, k + p.length) ∧ sub bs k (k + p.length) = p ∧ (B bs k == 35) = false ∧ blankB (B bs k) = false
theorem far_of {bs : List UInt8} {k j : Nat} {t : Tk} (hk : k < bs.length) (h : one bs k = .ok (t, j)) (h1 : (B bs k == 35) = false) (h2 : blankB (B bs k) = false) : Far (sub bs k j) t := by
  have hj := one_ok hk h
  have hl := sub_length (bs := bs) (i := k) (j := j) (by omega) hj.2.1
  refine ⟨bs, k, by omega, hk, ?_, ?_, h1, h2⟩
  · rw [hl, h]; congr 2; omega
  · rw [hl]; congr 1; omega

def spread (l : List (List UInt8 × List UInt8 × Tk)) : List UInt8 := l.flatMap (fun x => x.1 ++ x.2.1)
def Items (l : List (List UInt8 × List UInt8 × Tk)) : Prop := ∀ x ∈ l, Gap x.1 ∧ Far x.2.1 x.2.2
theorem spread_app (a b : List (List UInt8 × List UInt8 × Tk)) : spread (a ++ b) = spread a ++ spread b := by simp [spread]
theorem tk_spread : ∀ (l : List (List UInt8 × List UInt8 × Tk)) (pre : List UInt8), Items l → ∃ r, tk (pre ++ spread l) pre.length = .ok r ∧ r.map (·.1) = l.map (·.2.2)
  | [], pre => fun _ => ⟨[], tk_end (by simp [spread]), rfl⟩
  | (g, p, t) :: l, pre => fun h => by
    obtain ⟨hg, hf⟩ := h (g, p, t) (by simp)
    have hl : Items l := fun x hx => h x (by simp [hx])
    obtain ⟨bs, k, f1, f2, f3, f4, f5, f6⟩ := hf
    have hp0 : 0 < p.length := by have h1 := (one_ok f2 f3).1; simp only at h1; omega
    have e0 : spread ((g, p, t) :: l) = g ++ (p ++ spread l) := by simp [spread]
    rw [e0, hg.2 pre (p ++ spread l)]
    have e1 : pre ++ (g ++ (p ++ spread l)) = (pre ++ g) ++ (p ++ spread l) := by simp
    have e2 : pre.length + g.length = (pre ++ g).length := by simp
    rw [e1, e2]
    generalize pre ++ g = pre' at *
    have hS : Same bs k (pre' ++ (p ++ spread l)) pre'.length p.length := by
      refine ⟨by rw [sub_app, f4], by simp, f1, fun hlt => ?_⟩
      cases l with
      | nil => simp [spread] at hlt
      | cons y l' =>
        obtain ⟨⟨c, r, hc, hcb⟩, _⟩ := (hl y (by simp)).1
        have e3 : spread (y :: l') = c :: (r ++ (y.2.1 ++ spread l')) := by simp [spread, hc]
        rw [B_app, e3]
        have := B_mid p c (r ++ (y.2.1 ++ spread l'))
        rw [this]
        exact hcb
    have ho := hS.one f2 f3
    have hb : B (pre' ++ (p ++ spread l)) pre'.length = B bs k := hS.at (i := 0) hp0
    have hlt : pre'.length < (pre' ++ (p ++ spread l)).length := by simp; omega
    have ht := tk_ok [] hlt (by rw [hb]; exact f5) (by rw [hb]; exact f6) ho
    obtain ⟨r, hr, hm⟩ := tk_spread l (pre' ++ p) hl
    rw [show (pre' ++ p).length = pre'.length + p.length by simp, show pre' ++ p ++ spread l = pre' ++ (p ++ spread l) by simp] at hr
    rw [hr, ahead_nil] at ht
    refine ⟨(t, pre'.length) :: r, ?_, by simp [hm]⟩
    rw [ht]
    simp [ahead]
theorem all_spread {l : List (List UInt8 × List UInt8 × Tk)} (h : Items l) : ∃ r, all (spread l) = .ok r ∧ r.map (·.1) = l.map (·.2.2) := by
  rw [tk_all]
  exact tk_spread l [] h

/-- From one token to the next. -/
theorem tk_next {bs : List UInt8} {k : Nat} (hk : k ≤ bs.length) {l : List (Tk × Nat)} (h : tk bs k = .ok l) :
    (l = [] ∧ behind bs k = bs.length) ∨ ∃ t j l', l = (t, behind bs k) :: l' ∧ behind bs k < bs.length ∧ one bs (behind bs k) = .ok (t, j) ∧ tk bs j = .ok l' ∧ (B bs (behind bs k) == 35) = false ∧ blankB (B bs (behind bs k)) = false := by
  have hs := behind_stops hk
  rw [← tk_behind] at h
  generalize behind bs k = p at *
  by_cases hp : p < bs.length
  · right
    obtain ⟨h1, h2⟩ := hs.2.2 hp
    cases ho : one bs p with
    | error e => rw [tk_err hp h1 h2 ho] at h; cases h
    | ok r =>
      obtain ⟨t, j⟩ := r
      have := tk_ok [] hp h1 h2 ho
      rw [h, ahead_nil] at this
      cases hj : tk bs j with
      | error e => rw [hj] at this; simp [ahead] at this
      | ok l' =>
        rw [hj] at this
        simp [ahead] at this
        exact ⟨t, j, l', this, hp, rfl, hj, h1, h2⟩
  · left
    rw [tk_end (by omega)] at h
    cases h
    exact ⟨rfl, by omega⟩
end Tx
end Go.Proofs.YtjddbiabkobfoaaDoor
namespace Go.Proofs.YtjddbiabkobfoaaDoor
namespace Tx

/-- The digits of a number, without zeros ahead. -/
structure Dec (v : Int) (p : List UInt8) : Prop where
  digs : digs p = true
  ne : p ≠ []
  lead : p = [48] ∨ ∀ c r, p = c :: r → c.toNat ≠ 48
  val : v = (vl 0 p : Int)
  max : vl 0 p ≤ 9223372036854775807
/-- What a token is written as. -/
def SaidOf (t : Tk) (p : List UInt8) : Prop := (t.kind = 4 ∧ quoted t.s = some p) ∨ (t.kind = 3 ∧ Dec t.n p) ∨ ((t.kind == 4) = false ∧ (t.kind == 3) = false ∧ t.s = p)

theorem esc_seen {c : Int} (h34 : (c == 34) = false) (h92 : (c == 92) = false) (h : seenB c = true) : esc c = some [byteOf c] := by
  unfold esc
  have h10 : (c == 10) = false := by
    unfold seenB at h
    simp at h ⊢
    omega
  simp [h10, h34, h92, h]
theorem sub_next {bs : List UInt8} {i j : Nat} (h1 : i < j) (h2 : j ≤ bs.length) : sub bs i j = byteOf (B bs i) :: sub bs (i + 1) j := by
  obtain ⟨c, hc, hB⟩ := sub_cons h1 h2
  rw [hc, ← hB, byteOf_nat]
theorem txt_said (bs : List UInt8) : ∀ (f k : Nat) (acc s : List UInt8) (j : Nat), k ≤ bs.length → acc.length ≤ 64 → txt bs f k acc = some (s, j) → ∃ s', s = acc ++ s' ∧ escAll s' = some (sub bs k (j - 1)) ∧ B bs (j - 1) = 34 ∧ s.length ≤ 64
  | 0, k, acc, s, j => fun _ _ h => by simp [txt] at h
  | f + 1, k, acc, s, j => fun hkl ha h => by
    have hc := txt_clean bs _ k acc s j hkl h
    unfold txt at h
    by_cases hk : k < bs.length
    · rw [if_pos hk] at h
      by_cases h34 : (B bs k == 34) = true
      · rw [if_pos h34] at h
        simp at h
        obtain ⟨rfl, rfl⟩ := h
        exact ⟨[], by simp, by unfold sub; simp [escAll], by simpa using h34, ha⟩
      · rw [if_neg h34] at h
        by_cases hg : ((txb bs k).2.1 && !(acc.length == 64)) = true
        · rw [if_pos hg] at h
          have h34' : (B bs k == 34) = false := by simpa using h34
          simp at hg
          have hlt := txb_lt bs k hk
          have hc2 := txt_clean bs _ _ _ s j hlt.2 h
          have hbd := txb_bd bs k
          obtain ⟨s', e1, e2, e3, e4⟩ := txt_said bs f _ _ s j hlt.2 (by simp; omega) h
          refine ⟨byteOf (txb bs k).1 :: s', by rw [e1]; simp, ?_, e3, e4⟩
          have he : esc (txb bs k).1 = some (sub bs k (txb bs k).2.2) := by
            have hg1 := hg.1
            unfold txb at hg1 ⊢
            by_cases h92 : (B bs k == 92) = true
            · rw [if_pos h92] at hg1 ⊢
              have hb92 : B bs k = 92 := by simpa using h92
              by_cases hk1 : k + 1 < bs.length
              · rw [if_pos hk1] at hg1 ⊢
                have hsub : sub bs k (k + 2) = [92, byteOf (B bs (k + 1))] := by
                  rw [sub_next (by omega) (by omega), sub_next (by omega) (by omega), hb92]
                  have : sub bs (k + 1 + 1) (k + 2) = [] := by unfold sub; simp
                  rw [this]; rfl
                by_cases h110 : (B bs (k + 1) == 110) = true
                · rw [if_pos h110] at hg1 ⊢
                  simp only []
                  rw [hsub, show B bs (k + 1) = 110 by simpa using h110]
                  rfl
                · rw [if_neg h110] at hg1 ⊢
                  simp only [] at hg1 ⊢
                  rw [hsub]
                  unfold esc
                  simp at hg1
                  rcases hg1 with e | e <;> (rw [e]; rfl)
              · rw [if_neg hk1] at hg1; simp at hg1
            · rw [if_neg h92] at hg1 ⊢
              simp only [] at hg1 ⊢
              rw [esc_seen h34' (by simpa using h92) hg1, sub_next (by omega) (by omega)]
              unfold sub; simp
          rw [escAll, byteOf_toNat hbd, he]
          simp only [e2]
          rw [← sub_split (by omega) (by omega)]
        · rw [if_neg hg] at h; cases h
    · rw [if_neg hk] at h; cases h
theorem quoted_of {s e : List UInt8} (h : escAll s = some e) (hl : s.length ≤ 64) : quoted s = some ([34] ++ e ++ [34]) := by
  unfold quoted
  rw [if_neg (by omega), quo_esc s s.length 0 [34] (by omega), List.drop_zero, h]
/-- What a token is written as is what it was cut out of. -/
theorem said_of {bs : List UInt8} {k j : Nat} {t : Tk} (hk : k < bs.length) (h : one bs k = .ok (t, j)) : SaidOf t (sub bs k j) := by
  have hj := one_ok hk h
  unfold one at h
  by_cases h1 : letterB (B bs k) = true
  · rw [if_pos h1] at h
    right; right
    unfold oneWord at h
    split at h
    · cases h; exact ⟨rfl, rfl, rfl⟩
    · split at h
      · cases h
      · cases h; exact ⟨rfl, rfl, rfl⟩
  · rw [if_neg h1] at h
    by_cases h2 : digitB (B bs k) = true
    · rw [if_pos h2] at h
      right; left
      unfold oneNum at h
      by_cases h48 : (B bs k == 48) = true ∧ k + 1 < upTo innerB bs k
      · rw [if_pos h48] at h; cases h
      · rw [if_neg h48] at h
        cases hv : numOf (sub bs k (upTo innerB bs k)) with
        | none => rw [hv] at h; cases h
        | some v =>
          rw [hv] at h
          cases h
          refine ⟨rfl, ?_⟩
          simp only []
          obtain ⟨c, hc, hcB⟩ := sub_cons hj.1 hj.2.1
          have hd : 48 ≤ c.toNat ∧ c.toNat ≤ 57 := by
            rw [← hcB] at h2
            unfold digitB at h2
            simp at h2
            omega
          have hz : c.toNat ≠ 48 ∨ sub bs (k + 1) (upTo innerB bs k) = [] := by
            by_cases e : c.toNat = 48
            · right
              have : ¬ k + 1 < upTo innerB bs k := fun e2 => h48 ⟨by rw [← hcB, e]; rfl, e2⟩
              unfold sub
              rw [show upTo innerB bs k - (k + 1) = 0 by omega]
              simp
            · exact .inl e
          rw [hc] at hv ⊢
          rw [num_worth c _ hd.1 hd.2 hz] at hv
          unfold worthF at hv
          split at hv
          · cases hv
          · split at hv
            · rename_i q
              cases hv
              refine ⟨q.1, by simp, ?_, rfl, q.2⟩
              rcases hz with e | e
              · right; intro c' r' e'; cases e'; exact e
              · by_cases e48 : c.toNat = 48
                · left; rw [e]; congr 1; exact UInt8.toNat_inj.1 e48
                · right; intro c' r' e'; cases e'; exact e48
            · cases hv
    · rw [if_neg h2] at h
      by_cases h3 : (B bs k == 34) = true
      · rw [if_pos h3] at h
        left
        unfold oneText at h
        cases hx : textAt bs k with
        | none => rw [hx] at h; cases h
        | some r =>
          obtain ⟨s, j'⟩ := r
          rw [hx] at h
          cases h
          refine ⟨rfl, ?_⟩
          simp only []
          obtain ⟨s', e1, e2, e3, e4⟩ := txt_said bs _ (k + 1) [] s _ (by omega) (by simp) hx
          have hc := txt_clean bs _ (k + 1) [] s _ (by omega) hx
          simp at e1
          subst e1
          rw [quoted_of e2 e4]
          congr 1
          have hb : B bs k = 34 := by simpa using h3
          rw [sub_split (bs := bs) (i := k) (m := k + 1) (by omega) (by omega), sub_split (bs := bs) (i := k + 1) (m := j - 1) (j := j) (by omega) (by omega)]
          have a1 : sub bs k (k + 1) = [34] := by rw [sub_next (by omega) (by omega), hb]; unfold sub; simp; rfl
          have a2 : sub bs (j - 1) j = [34] := by rw [sub_next (by omega) (by omega), e3]; unfold sub; rw [show j - (j - 1 + 1) = 0 by omega]; simp; rfl
          rw [a1, a2]
          simp
      · rw [if_neg h3] at h
        right; right
        unfold oneMark at h
        split at h
        · cases h; exact ⟨rfl, rfl, rfl⟩
        · split at h
          · cases h; exact ⟨rfl, rfl, rfl⟩
          · cases h
theorem said_len {bs : List UInt8} {k j : Nat} {t : Tk} (h : one bs k = .ok (t, j)) (hk : k < bs.length) (hl : bs.length ≤ 4096) : t.s.length ≤ 4096 := by
  have hj := one_ok hk h
  have hs := sub_length (bs := bs) (i := k) (j := j) (by omega) hj.2.1
  rcases said_of hk h with ⟨_, h2⟩ | ⟨h1, h2⟩ | ⟨_, _, h3⟩
  · unfold quoted at h2
    split at h2
    · cases h2
    · omega
  · unfold one at h
    by_cases q1 : letterB (B bs k) = true
    · rw [if_pos q1] at h
      unfold oneWord at h
      split at h
      · cases h; cases h1
      · split at h
        · cases h
        · cases h; cases h1
    · rw [if_neg q1] at h
      by_cases q2 : digitB (B bs k) = true
      · rw [if_pos q2] at h
        unfold oneNum at h
        split at h
        · cases h
        · split at h
          · cases h; simp
          · cases h
      · rw [if_neg q2] at h
        by_cases q3 : (B bs k == 34) = true
        · rw [if_pos q3] at h
          unfold oneText at h
          split at h
          · cases h; cases h1
          · cases h
        · rw [if_neg q3] at h
          unfold oneMark at h
          split at h
          · cases h; cases h1
          · split at h
            · cases h; cases h1
            · cases h
  · rw [h3, hs]; omega
end Tx
end Go.Proofs.YtjddbiabkobfoaaDoor
