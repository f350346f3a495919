/- Plain facts: tokens written one behind the other, with gaps between, are read as they were. Nothing of the program is named here. -/
import Derived.Test.YtjddbiabkobfoaaDoorLiesSpec
import Derived.Test.YtjddbiabkobfoaaDoorQSpec
namespace Go.Proofs.YtjddbiabkobfoaaDoor
namespace Tx

theorem B_app (pre x : List UInt8) (i : Nat) : B (pre ++ x) (pre.length + i) = B x i := by
  unfold B
  rw [List.getElem?_append_right (by omega), Nat.add_sub_cancel_left]
theorem sub_app (pre p r : List UInt8) : sub (pre ++ (p ++ r)) pre.length (pre.length + p.length) = p := by
  unfold sub
  rw [List.drop_left, Nat.add_sub_cancel_left, List.take_left]

theorem tk_skip : ∀ (g pre r : List UInt8), (∀ c ∈ g, blankB (c.toNat : Int) = true) → tk (pre ++ (g ++ r)) pre.length = tk (pre ++ (g ++ r)) (pre.length + g.length)
  | [], pre, r => fun _ => by simp
  | c :: g, pre, r => fun h => by
    have hb : B (pre ++ (c :: g ++ r)) pre.length = (c.toNat : Int) := B_mid pre c (g ++ r)
    rw [tk_blank (by simp) (by rw [hb]; exact h c (by simp))]
    have e : pre ++ (c :: g ++ r) = (pre ++ [c]) ++ (g ++ r) := by simp
    have := tk_skip g (pre ++ [c]) r (fun d hd => h d (by simp [hd]))
    rw [e]
    rw [show (pre ++ [c]).length = pre.length + 1 by simp] at this
    rw [this]
    congr 1
    simp; omega
/-- The remark that is put between. -/
def rem : List UInt8 := [35, 108, 101, 116, 32, 34, 10]
theorem tk_rem (pre r : List UInt8) : tk (pre ++ (rem ++ r)) pre.length = tk (pre ++ (rem ++ r)) (pre.length + 7) := by
  have hB : ∀ i, i < 7 → B (pre ++ (rem ++ r)) (pre.length + i) = B rem i := fun i hi => by
    rw [B_app]
    unfold B
    rw [List.getElem?_append_left (by simpa [rem] using hi)]
  have hl : pre.length + 7 ≤ (pre ++ (rem ++ r)).length := by simp [rem]
  have h0 : B (pre ++ (rem ++ r)) pre.length = 35 := by have := hB 0 (by omega); rw [Nat.add_zero] at this; rw [this]; decide
  rw [tk_remark (by omega) (by rw [h0]; decide)]
  rw [upTo_eq (p := notTen) 6 (fun i hi => by
    rw [hB i (by omega)]
    match i, hi with
    | 0, _ => decide
    | 1, _ => decide
    | 2, _ => decide
    | 3, _ => decide
    | 4, _ => decide
    | 5, _ => decide) (by omega) (fun _ => by rw [hB 6 (by omega)]; decide)]
  exact tk_blank (by omega) (by rw [hB 6 (by omega)]; decide)

/-- What may stand between two tokens. -/
def Gap (g : List UInt8) : Prop := (∃ c r, g = c :: r ∧ blankB (c.toNat : Int) = true) ∧ ∀ pre r : List UInt8, tk (pre ++ (g ++ r)) pre.length = tk (pre ++ (g ++ r)) (pre.length + g.length)
theorem gap_blanks {g : List UInt8} (h0 : g ≠ []) (h : ∀ c ∈ g, blankB (c.toNat : Int) = true) : Gap g := by
  obtain ⟨c, r, rfl⟩ := List.exists_cons_of_ne_nil h0
  exact ⟨⟨c, r, rfl, h c (by simp)⟩, fun pre r' => tk_skip _ pre r' h⟩
theorem gap_rem {g : List UInt8} (h0 : g ≠ []) (h : ∀ c ∈ g, blankB (c.toNat : Int) = true) : Gap (g ++ rem) := by
  obtain ⟨c, r, rfl⟩ := List.exists_cons_of_ne_nil h0
  refine ⟨⟨c, r ++ rem, rfl, h c (by simp)⟩, fun pre r' => ?_⟩
  have h1 := tk_skip (c :: r) pre (rem ++ r') h
  have h2 := tk_rem (pre ++ (c :: r)) r'
  have e1 : pre ++ (c :: r ++ rem ++ r') = pre ++ (c :: r ++ (rem ++ r')) := by simp
  have e2 : pre ++ (c :: r ++ rem ++ r') = (pre ++ (c :: r)) ++ (rem ++ r') := by simp
  rw [← e1] at h1
  rw [← e2] at h2
  rw [h1]
  rw [show (pre ++ (c :: r)).length = pre.length + (c :: r).length by simp] at h2
  rw [h2]
  congr 1
  simp [rem]; omega

/-- The bytes of a token of some source. -/
def Far (p : List UInt8) (t : Tk) : Prop := ∃ bs k, k + p.length ≤ bs.length ∧ k < bs.length ∧ one bs k = .ok (t, k + p.length) ∧ sub bs k (k + p.length) = p ∧ (B bs k == 35) = false ∧ blankB (B bs k) = false
theorem far_of {bs : List UInt8} {k j : Nat} {t : Tk} (hk : k < bs.length) (h : one bs k = .ok (t, j)) (h1 : (B bs k == 35) = false) (h2 : blankB (B bs k) = false) : Far (sub bs k j) t := by
  have hj := one_ok hk h
  have hl := sub_length (bs := bs) (i := k) (j := j) (by omega) hj.2.1
  refine ⟨bs, k, by omega, hk, ?_, ?_, h1, h2⟩
  · rw [hl, h]; congr 2; omega
  · rw [hl]; congr 1; omega

def spread (l : List (List UInt8 × List UInt8 × Tk)) : List UInt8 := l.flatMap (fun x => x.1 ++ x.2.1)
def Items (l : List (List UInt8 × List UInt8 × Tk)) : Prop := ∀ x ∈ l, Gap x.1 ∧ Far x.2.1 x.2.2
theorem spread_app (a b : List (List UInt8 × List UInt8 × Tk)) : spread (a ++ b) = spread a ++ spread b := by simp [spread]
theorem tk_spread : ∀ (l : List (List UInt8 × List UInt8 × Tk)) (pre : List UInt8), Items l → ∃ r, tk (pre ++ spread l) pre.length = .ok r ∧ r.map (·.1) = l.map (·.2.2)
  | [], pre => fun _ => ⟨[], tk_end (by simp [spread]), rfl⟩
  | (g, p, t) :: l, pre => fun h => by
    obtain ⟨hg, hf⟩ := h (g, p, t) (by simp)
    have hl : Items l := fun x hx => h x (by simp [hx])
    obtain ⟨bs, k, f1, f2, f3, f4, f5, f6⟩ := hf
    have hp0 : 0 < p.length := by have h1 := (one_ok f2 f3).1; simp only at h1; omega
    have e0 : spread ((g, p, t) :: l) = g ++ (p ++ spread l) := by simp [spread]
    rw [e0, hg.2 pre (p ++ spread l)]
    have e1 : pre ++ (g ++ (p ++ spread l)) = (pre ++ g) ++ (p ++ spread l) := by simp
    have e2 : pre.length + g.length = (pre ++ g).length := by simp
    rw [e1, e2]
    generalize pre ++ g = pre' at *
    have hS : Same bs k (pre' ++ (p ++ spread l)) pre'.length p.length := by
      refine ⟨by rw [sub_app, f4], by simp, f1, fun hlt => ?_⟩
      cases l with
      | nil => simp [spread] at hlt
      | cons y l' =>
        obtain ⟨⟨c, r, hc, hcb⟩, _⟩ := (hl y (by simp)).1
        have e3 : spread (y :: l') = c :: (r ++ (y.2.1 ++ spread l')) := by simp [spread, hc]
        rw [B_app, e3]
        have := B_mid p c (r ++ (y.2.1 ++ spread l'))
        rw [this]
        exact hcb
    have ho := hS.one f2 f3
    have hb : B (pre' ++ (p ++ spread l)) pre'.length = B bs k := hS.at (i := 0) hp0
    have hlt : pre'.length < (pre' ++ (p ++ spread l)).length := by simp; omega
    have ht := tk_ok [] hlt (by rw [hb]; exact f5) (by rw [hb]; exact f6) ho
    obtain ⟨r, hr, hm⟩ := tk_spread l (pre' ++ p) hl
    rw [show (pre' ++ p).length = pre'.length + p.length by simp, show pre' ++ p ++ spread l = pre' ++ (p ++ spread l) by simp] at hr
    rw [hr, ahead_nil] at ht
    refine ⟨(t, pre'.length) :: r, ?_, by simp [hm]⟩
    rw [ht]
    simp [ahead]
theorem all_spread {l : List (List UInt8 × List UInt8 × Tk)} (h : Items l) : ∃ r, all (spread l) = .ok r ∧ r.map (·.1) = l.map (·.2.2) := by
  rw [tk_all]
  exact tk_spread l [] h

/-- From one token to the next. -/
theorem tk_next {bs : List UInt8} {k : Nat} (hk : k ≤ bs.length) {l : List (Tk × Nat)} (h : tk bs k = .ok l) :
    (l = [] ∧ behind bs k = bs.length) ∨ ∃ t j l', l = (t, behind bs k) :: l' ∧ behind bs k < bs.length ∧ one bs (behind bs k) = .ok (t, j) ∧ tk bs j = .ok l' ∧ (B bs (behind bs k) == 35) = false ∧ blankB (B bs (behind bs k)) = false := by
  have hs := behind_stops hk
  rw [← tk_behind] at h
  generalize behind bs k = p at *
  by_cases hp : p < bs.length
  · right
    obtain ⟨h1, h2⟩ := hs.2.2 hp
    cases ho : one bs p with
    | error e => rw [tk_err hp h1 h2 ho] at h; cases h
    | ok r =>
      obtain ⟨t, j⟩ := r
      have := tk_ok [] hp h1 h2 ho
      rw [h, ahead_nil] at this
      cases hj : tk bs j with
      | error e => rw [hj] at this; simp [ahead] at this
      | ok l' =>
        rw [hj] at this
        simp [ahead] at this
        exact ⟨t, j, l', this, hp, rfl, hj, h1, h2⟩
  · left
    rw [tk_end (by omega)] at h
    cases h
    exact ⟨rfl, by omega⟩
end Tx
end Go.Proofs.YtjddbiabkobfoaaDoor
