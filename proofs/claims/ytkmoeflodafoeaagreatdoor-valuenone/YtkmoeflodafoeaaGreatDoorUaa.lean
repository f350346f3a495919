/- Plain functions on lists of bytes: what layer 2 of the document says a type is. Nothing of the program is named here. -/
import Derived.Below
namespace Go.Proofs.YtkmoeflodafoeaaGreatDoor.T3
namespace Tp

/-- The byte at a place, as a number; 0 behind the end. -/
def B (bs : List UInt8) (k : Nat) : Int := ((bs[k]?.getD 0).toNat : Int)
theorem B_bd (bs : List UInt8) (k : Nat) : 0 ≤ B bs k ∧ B bs k ≤ 255 := by
  unfold B
  have := (bs[k]?.getD 0).toNat_lt
  omega

/-- How many parts a head has; -1: it is none. -/
def ar (c : Int) : Int :=
  if c == 105 || c == 98 || c == 116 || c == 63 then 0 else if c == 108 || c == 120 then 1 else if c == 62 || c == 44 then 2 else -1
theorem ar_bd (c : Int) : -1 ≤ ar c ∧ ar c ≤ 2 := by unfold ar; repeat' split <;> omega

/-- m types still to come: how many bytes they take, and whether they are there. -/
def beh : List UInt8 → Nat → Nat × Bool
  | _, 0 => (0, true)
  | [], _ + 1 => (0, false)
  | c :: r, m + 1 => if ar c.toNat < 0 then (0, false) else ((beh r (m + (ar c.toNat).toNat)).1 + 1, (beh r (m + (ar c.toNat).toNat)).2)

theorem beh_zero (bs : List UInt8) : beh bs 0 = (0, true) := by cases bs <;> rfl
theorem beh_le : ∀ (bs : List UInt8) (m : Nat), (beh bs m).1 ≤ bs.length
  | bs, 0 => by rw [beh_zero]; exact Nat.zero_le _
  | [], m + 1 => by simp [beh]
  | c :: r, m + 1 => by
    unfold beh
    split
    · simp
    · have := beh_le r (m + (ar c.toNat).toNat)
      simpa using this

inductive Ty
  | ti | tb | tt | tq
  | tl (a : Ty) | tx (a : Ty)
  | tf (a b : Ty) | tp (a b : Ty)
  deriving DecidableEq

def enc : Ty → List UInt8
  | .ti => [105] | .tb => [98] | .tt => [116] | .tq => [63]
  | .tl a => 108 :: enc a | .tx a => 120 :: enc a
  | .tf a b => 62 :: (enc a ++ enc b) | .tp a b => 44 :: (enc a ++ enc b)
theorem enc_pos (t : Ty) : 0 < (enc t).length := by cases t <;> simp [enc]

theorem beh_cons (c : UInt8) (r : List UInt8) (m : Nat) (h : 0 ≤ ar c.toNat) : beh (c :: r) (m + 1) = ((beh r (m + (ar c.toNat).toNat)).1 + 1, (beh r (m + (ar c.toNat).toNat)).2) := by
  rw [beh, if_neg (by omega)]
theorem beh_enc : ∀ (t : Ty) (r : List UInt8) (m : Nat), beh (enc t ++ r) (m + 1) = ((enc t).length + (beh r m).1, (beh r m).2)
  | .ti, r, m => by rw [show enc .ti ++ r = 105 :: r from rfl, beh_cons _ _ _ (by decide), show m + (ar (105 : UInt8).toNat).toNat = m from rfl]; simp [enc]; omega
  | .tb, r, m => by rw [show enc .tb ++ r = 98 :: r from rfl, beh_cons _ _ _ (by decide), show m + (ar (98 : UInt8).toNat).toNat = m from rfl]; simp [enc]; omega
  | .tt, r, m => by rw [show enc .tt ++ r = 116 :: r from rfl, beh_cons _ _ _ (by decide), show m + (ar (116 : UInt8).toNat).toNat = m from rfl]; simp [enc]; omega
  | .tq, r, m => by rw [show enc .tq ++ r = 63 :: r from rfl, beh_cons _ _ _ (by decide), show m + (ar (63 : UInt8).toNat).toNat = m from rfl]; simp [enc]; omega
  | .tl a, r, m => by
    rw [show enc (.tl a) ++ r = 108 :: (enc a ++ r) from rfl, beh_cons _ _ _ (by decide), show m + (ar (108 : UInt8).toNat).toNat = m + 1 from rfl, beh_enc a r m]
    simp [enc]; omega
  | .tx a, r, m => by
    rw [show enc (.tx a) ++ r = 120 :: (enc a ++ r) from rfl, beh_cons _ _ _ (by decide), show m + (ar (120 : UInt8).toNat).toNat = m + 1 from rfl, beh_enc a r m]
    simp [enc]; omega
  | .tf a b, r, m => by
    rw [show enc (.tf a b) ++ r = 62 :: (enc a ++ (enc b ++ r)) from by simp [enc], beh_cons _ _ _ (by decide), show m + (ar (62 : UInt8).toNat).toNat = (m + 1) + 1 from rfl, beh_enc a _ (m + 1), beh_enc b r m]
    simp [enc]; omega
  | .tp a b, r, m => by
    rw [show enc (.tp a b) ++ r = 44 :: (enc a ++ (enc b ++ r)) from by simp [enc], beh_cons _ _ _ (by decide), show m + (ar (44 : UInt8).toNat).toNat = (m + 1) + 1 from rfl, beh_enc a _ (m + 1), beh_enc b r m]
    simp [enc]; omega

theorem ar_cases (c : UInt8) : (ar c.toNat = 0 ∧ (c = 105 ∨ c = 98 ∨ c = 116 ∨ c = 63)) ∨ (ar c.toNat = 1 ∧ (c = 108 ∨ c = 120)) ∨ (ar c.toNat = 2 ∧ (c = 62 ∨ c = 44)) ∨ ar c.toNat = -1 := by
  have key : ∀ n : Nat, ((c.toNat : Int) == n) = true → c = UInt8.ofNat n := by
    intro n h
    have h1 : (c.toNat : Int) = n := by simpa using h
    have h' : c.toNat = n := by omega
    rw [← h']; simp
  unfold ar
  split
  · rename_i h
    left; refine ⟨rfl, ?_⟩
    simp only [Bool.or_eq_true] at h
    rcases h with ((h | h) | h) | h
    · exact .inl (key 105 h)
    · exact .inr (.inl (key 98 h))
    · exact .inr (.inr (.inl (key 116 h)))
    · exact .inr (.inr (.inr (key 63 h)))
  · split
    · rename_i h
      right; left; refine ⟨rfl, ?_⟩
      simp only [Bool.or_eq_true] at h
      rcases h with h | h
      · exact .inl (key 108 h)
      · exact .inr (key 120 h)
    · split
      · rename_i h
        right; right; left; refine ⟨rfl, ?_⟩
        simp only [Bool.or_eq_true] at h
        rcases h with h | h
        · exact .inl (key 62 h)
        · exact .inr (key 44 h)
      · right; right; right; rfl

def encs (ts : List Ty) : List UInt8 := (ts.map enc).flatten
theorem encs_cons (t : Ty) (ts : List Ty) : encs (t :: ts) = enc t ++ encs ts := rfl

theorem beh_dec : ∀ (bs : List UInt8) (m e : Nat), beh bs m = (e, true) → ∃ ts : List Ty, ts.length = m ∧ bs.take e = encs ts
  | bs, 0, e => fun h => by
    rw [beh_zero] at h
    cases h
    exact ⟨[], rfl, rfl⟩
  | [], m + 1, e => fun h => by simp [beh] at h
  | c :: r, m + 1, e => fun h => by
    rcases ar_cases c with ⟨h0, hc⟩ | ⟨h0, hc⟩ | ⟨h0, hc⟩ | h0
    · rw [beh_cons _ _ _ (by omega), h0] at h
      obtain ⟨e', he, hb⟩ : ∃ e', e = e' + 1 ∧ beh r m = (e', true) := ⟨_, (Prod.mk.inj h).1.symm, Prod.ext rfl (Prod.mk.inj h).2⟩
      obtain ⟨ts, hl, ht⟩ := beh_dec r m e' hb
      subst he
      rcases hc with rfl | rfl | rfl | rfl
      · exact ⟨.ti :: ts, by simp [hl], by rw [List.take_succ_cons, ht]; rfl⟩
      · exact ⟨.tb :: ts, by simp [hl], by rw [List.take_succ_cons, ht]; rfl⟩
      · exact ⟨.tt :: ts, by simp [hl], by rw [List.take_succ_cons, ht]; rfl⟩
      · exact ⟨.tq :: ts, by simp [hl], by rw [List.take_succ_cons, ht]; rfl⟩
    · rw [beh_cons _ _ _ (by omega), h0] at h
      obtain ⟨e', he, hb⟩ : ∃ e', e = e' + 1 ∧ beh r (m + 1) = (e', true) := ⟨_, (Prod.mk.inj h).1.symm, Prod.ext rfl (Prod.mk.inj h).2⟩
      obtain ⟨ts, hl, ht⟩ := beh_dec r (m + 1) e' hb
      subst he
      match ts, hl with
      | a :: ts, hl =>
        rcases hc with rfl | rfl
        · exact ⟨.tl a :: ts, by simpa using hl, by rw [List.take_succ_cons, ht]; rfl⟩
        · exact ⟨.tx a :: ts, by simpa using hl, by rw [List.take_succ_cons, ht]; rfl⟩
    · rw [beh_cons _ _ _ (by omega), h0] at h
      obtain ⟨e', he, hb⟩ : ∃ e', e = e' + 1 ∧ beh r (m + 2) = (e', true) := ⟨_, (Prod.mk.inj h).1.symm, Prod.ext rfl (Prod.mk.inj h).2⟩
      obtain ⟨ts, hl, ht⟩ := beh_dec r (m + 2) e' hb
      subst he
      match ts, hl with
      | a :: b :: ts, hl =>
        rcases hc with rfl | rfl
        · exact ⟨.tf a b :: ts, by simpa using hl, by rw [List.take_succ_cons, ht]; simp [encs, enc]⟩
        · exact ⟨.tp a b :: ts, by simpa using hl, by rw [List.take_succ_cons, ht]; simp [encs, enc]⟩
    · rw [beh, if_pos (by omega)] at h
      simp at h

/-- P2.1: what is wrong with a text, and where; (0, 0): it is a type. -/
def chk (bs : List UInt8) : Nat × Nat :=
  if 64 < bs.length then (21, 64) else if (beh bs 1).2 && (beh bs 1).1 == bs.length then (0, 0) else (20, (beh bs 1).1)
theorem chk_long {bs : List UInt8} (h : 64 < bs.length) : chk bs = (21, 64) := by unfold chk; rw [if_pos h]
theorem chk_bad {bs : List UInt8} (h : ¬ 64 < bs.length) (h2 : (beh bs 1).2 = false ∨ (beh bs 1).1 ≠ bs.length) : chk bs = (20, (beh bs 1).1) := by
  unfold chk
  rw [if_neg h, if_neg]
  rcases h2 with h2 | h2 <;> simp [h2]
theorem chk_good {bs : List UInt8} (h : ¬ 64 < bs.length) (h2 : beh bs 1 = (bs.length, true)) : chk bs = (0, 0) := by
  unfold chk
  rw [if_neg h, h2]
  simp
theorem chk_enc (t : Ty) (h : (enc t).length ≤ 64) : chk (enc t) = (0, 0) := by
  refine chk_good (by omega) ?_
  have := beh_enc t [] 0
  rw [List.append_nil] at this
  rw [this, beh_zero]
  rfl
theorem chk_dec {bs : List UInt8} (h : (chk bs).1 = 0) : ∃ t, bs = enc t ∧ (enc t).length ≤ 64 := by
  unfold chk at h
  split at h
  · simp at h
  · split at h
    · rename_i h1 h2
      simp at h2
      obtain ⟨ts, hl, ht⟩ := beh_dec bs 1 bs.length (Prod.ext h2.2 h2.1)
      rw [List.take_length] at ht
      match ts, hl with
      | [t], _ =>
        have e : bs = enc t := by rw [ht]; simp [encs]
        exact ⟨t, e, by rw [← e]; omega⟩
    · simp at h
theorem chk_snd {bs : List UInt8} (h : (chk bs).1 = 0) : chk bs = (0, 0) := by
  obtain ⟨t, rfl, hl⟩ := chk_dec h
  exact chk_enc t hl

/-- Types stand apart: no beginning of one is one. -/
theorem enc_pre : ∀ (a b : Ty) (r s : List UInt8), enc a ++ r = enc b ++ s → a = b ∧ r = s := by
  intro a
  induction a with
  | ti => intro b r s h; cases b <;> simp [enc] at h ⊢; exact h
  | tb => intro b r s h; cases b <;> simp [enc] at h ⊢; exact h
  | tt => intro b r s h; cases b <;> simp [enc] at h ⊢; exact h
  | tq => intro b r s h; cases b <;> simp [enc] at h ⊢; exact h
  | tl a ih => intro b r s h; cases b <;> simp [enc] at h ⊢; exact ih _ _ _ h
  | tx a ih => intro b r s h; cases b <;> simp [enc] at h ⊢; exact ih _ _ _ h
  | tf a c iha ihc =>
    intro b r s h
    cases b <;> simp [enc] at h ⊢
    obtain ⟨rfl, h2⟩ := iha _ _ _ h
    exact ⟨⟨rfl, (ihc _ _ _ h2).1⟩, (ihc _ _ _ h2).2⟩
  | tp a c iha ihc =>
    intro b r s h
    cases b <;> simp [enc] at h ⊢
    obtain ⟨rfl, h2⟩ := iha _ _ _ h
    exact ⟨⟨rfl, (ihc _ _ _ h2).1⟩, (ihc _ _ _ h2).2⟩
theorem enc_inj {a b : Ty} (h : enc a = enc b) : a = b := (enc_pre a b [] [] (by rw [h])).1

def kids : Ty → List Ty
  | .ti | .tb | .tt | .tq => []
  | .tl a | .tx a => [a]
  | .tf a b | .tp a b => [a, b]
def hd : Ty → UInt8
  | .ti => 105 | .tb => 98 | .tt => 116 | .tq => 63 | .tl _ => 108 | .tx _ => 120 | .tf _ _ => 62 | .tp _ _ => 44
theorem enc_eq (t : Ty) : enc t = hd t :: encs (kids t) := by cases t <;> simp [enc, hd, kids, encs]
theorem ar_hd (t : Ty) : ar (hd t).toNat = (kids t).length := by cases t <;> rfl
def high : Ty → Nat
  | .ti | .tb | .tt | .tq => 1
  | .tl a | .tx a => high a + 1
  | .tf a b | .tp a b => max (high a) (high b) + 1
def isF : Ty → Bool
  | .tf _ _ => true
  | _ => false
def par (t : Ty) (w : List UInt8) : List UInt8 := if isF t then 40 :: (w ++ [41]) else w
/-- The words of a type. -/
def wd : Ty → List UInt8
  | .ti => [105, 110, 116] | .tb => [98, 111, 111, 108] | .tt => [116, 101, 120, 116] | .tq => [63]
  | .tl a => 91 :: (wd a ++ [93])
  | .tx a => [98, 111, 120, 32] ++ par a (wd a)
  | .tf a b => par a (wd a) ++ ([32, 45, 62, 32] ++ wd b)
  | .tp a b => 40 :: (wd a ++ ([44, 32] ++ (wd b ++ [41])))
theorem par_len (t : Ty) (w : List UInt8) : (par t w).length ≤ w.length + 2 := by unfold par; split <;> simp
theorem wd_len : ∀ t : Ty, (wd t).length + 6 ≤ 10 * (enc t).length
  | .ti | .tb | .tt | .tq => by decide
  | .tl a => by have := wd_len a; simp [wd, enc]; omega
  | .tx a => by have := wd_len a; have := par_len a (wd a); simp [wd, enc]; omega
  | .tf a b => by have := wd_len a; have := wd_len b; have := par_len a (wd a); simp [wd, enc]; omega
  | .tp a b => by have := wd_len a; have := wd_len b; simp [wd, enc]; omega
end Tp
end Go.Proofs.YtkmoeflodafoeaaGreatDoor.T3
