/- Plain facts: letters, names, texts, types, and trees as lists of nodes. Nothing of the program is named here. -/
import Derived.Below
namespace Go.Proofs.YtpikfdkgblghhaaGreatDoor
set_option maxRecDepth 100000
namespace Tx

/-- The byte at a place, as a number; 0 behind the end. -/
def B (bs : List UInt8) (k : Nat) : Int := ((bs[k]?.getD 0).toNat : Int)
theorem B_bd (bs : List UInt8) (k : Nat) : 0 ≤ B bs k ∧ B bs k ≤ 255 := by
  unfold B
  have := (bs[k]?.getD 0).toNat_lt
  omega

def blankB (c : Int) : Bool := c == 9 || c == 10 || c == 13 || c == 32
def letterB (c : Int) : Bool := decide (97 ≤ c) && decide (c ≤ 122) || decide (65 ≤ c) && decide (c ≤ 90)
def digitB (c : Int) : Bool := decide (48 ≤ c) && decide (c ≤ 57)
def innerB (c : Int) : Bool := letterB c || digitB c || c == 95
def seenB (c : Int) : Bool := decide (32 ≤ c) && decide (c ≤ 126)
def notTen (c : Int) : Bool := !(c == 10)

/-- From a place on, as far as the bytes are such. -/
def scan (p : Int → Bool) (bs : List UInt8) : Nat → Nat → Nat
  | 0, k => k
  | f + 1, k => if k < bs.length then (if p (B bs k) then scan p bs f (k + 1) else k) else k
def upTo (p : Int → Bool) (bs : List UInt8) (k : Nat) : Nat := scan p bs (bs.length - k) k

theorem upTo_in {p : Int → Bool} {bs : List UInt8} {k : Nat} (h : k < bs.length) (hp : p (B bs k) = true) : upTo p bs k = upTo p bs (k + 1) := by
  unfold upTo
  rw [show bs.length - k = (bs.length - (k + 1)) + 1 by omega]
  simp [scan, h, hp]
theorem upTo_out {p : Int → Bool} {bs : List UInt8} {k : Nat} (h : k < bs.length) (hp : p (B bs k) = false) : upTo p bs k = k := by
  unfold upTo
  rw [show bs.length - k = (bs.length - (k + 1)) + 1 by omega]
  simp [scan, h, hp]
theorem upTo_end {p : Int → Bool} {bs : List UInt8} {k : Nat} (h : bs.length ≤ k) : upTo p bs k = k := by
  unfold upTo
  rw [show bs.length - k = 0 by omega]
  rfl
theorem scan_le (p : Int → Bool) (bs : List UInt8) : ∀ (f k : Nat), k ≤ scan p bs f k
  | 0, k => Nat.le_refl _
  | f + 1, k => by
    unfold scan
    have := scan_le p bs f (k + 1)
    split
    · split <;> omega
    · omega
theorem scan_len (p : Int → Bool) (bs : List UInt8) : ∀ (f k : Nat), k ≤ bs.length → scan p bs f k ≤ bs.length
  | 0, k => fun h => h
  | f + 1, k => fun h => by
    unfold scan
    split
    · split
      · exact scan_len p bs f (k + 1) (by omega)
      · omega
    · omega
theorem upTo_le (p : Int → Bool) (bs : List UInt8) (k : Nat) : k ≤ upTo p bs k := scan_le _ _ _ _
theorem upTo_len (p : Int → Bool) {bs : List UInt8} {k : Nat} (h : k ≤ bs.length) : upTo p bs k ≤ bs.length := scan_len _ _ _ _ h
theorem scan_all (p : Int → Bool) (bs : List UInt8) : ∀ (f k j : Nat), k ≤ j → j < scan p bs f k → p (B bs j) = true ∧ j < bs.length
  | 0, k, j => fun h1 h2 => by simp [scan] at h2; omega
  | f + 1, k, j => fun h1 h2 => by
    unfold scan at h2
    split at h2
    · split at h2
      · by_cases e : j = k
        · subst e; exact ⟨by assumption, by assumption⟩
        · exact scan_all p bs f (k + 1) j (by omega) h2
      · omega
    · omega
theorem upTo_all (p : Int → Bool) (bs : List UInt8) (k j : Nat) (h1 : k ≤ j) (h2 : j < upTo p bs k) : p (B bs j) = true ∧ j < bs.length := scan_all p bs _ k j h1 h2
theorem scan_stop (p : Int → Bool) (bs : List UInt8) : ∀ (f k : Nat), bs.length - k ≤ f → scan p bs f k < bs.length → p (B bs (scan p bs f k)) = false
  | 0, k => fun h1 h2 => by simp [scan] at h2; omega
  | f + 1, k => fun h1 h2 => by
    unfold scan at h2 ⊢
    by_cases hk : k < bs.length
    · rw [if_pos hk] at h2 ⊢
      by_cases hp : p (B bs k) = true
      · rw [if_pos hp] at h2 ⊢
        exact scan_stop p bs f (k + 1) (by omega) h2
      · rw [if_neg hp] at h2 ⊢
        simpa using hp
    · rw [if_neg hk] at h2; omega
theorem upTo_stop (p : Int → Bool) (bs : List UInt8) (k : Nat) (h : upTo p bs k < bs.length) : p (B bs (upTo p bs k)) = false := scan_stop p bs _ k (Nat.le_refl _) h

/-- The words of the language, as bytes. -/
def words : List (List UInt8) := [[109, 111, 100, 117, 108, 101], [105, 109, 112, 111, 114, 116], [101, 120, 112, 111, 114, 116], [108, 101, 116], [114, 101, 99], [105, 110], [105, 102], [116, 104, 101, 110], [101, 108, 115, 101], [102, 110], [116, 114, 117, 101], [102, 97, 108, 115, 101], [105, 110, 116], [98, 111, 111, 108], [116, 101, 120, 116], [98, 111, 120], [102, 105, 114, 115, 116], [115, 101, 99, 111, 110, 100], [104, 101, 97, 100], [116, 97, 105, 108], [101, 109, 112, 116, 121], [99, 111, 110, 115], [115, 105, 122, 101]]
def wordB (l : List UInt8) : Bool := words.contains l
theorem wordB_short {l : List UInt8} (h : wordB l = true) : l.length ≤ 6 := by
  unfold wordB words at h
  simp at h
  rcases h with rfl | rfl | rfl | rfl | rfl | rfl | rfl | rfl | rfl | rfl | rfl | rfl | rfl | rfl | rfl | rfl | rfl | rfl | rfl | rfl | rfl | rfl | rfl <;> decide
def byteOf (c : Int) : UInt8 := UInt8.ofNat c.toNat
theorem byteOf_toNat {c : Int} (h : 0 ≤ c ∧ c ≤ 255) : ((byteOf c).toNat : Int) = c := by
  unfold byteOf
  have : c.toNat < 256 := by omega
  rw [UInt8.toNat_ofNat_of_lt' (by simpa using this)]
  omega
/-- How one byte of a text is written; none: it may not be. -/
def esc (c : Int) : Option (List UInt8) :=
  if c == 10 then some [92, 110] else if c == 34 || c == 92 then some [92, byteOf c] else if seenB c then some [byteOf c] else none
def escAll : List UInt8 → Option (List UInt8)
  | [] => some []
  | c :: r => match esc (c.toNat : Int) with
    | none => none
    | some e => match escAll r with
      | none => none
      | some q => some (e ++ q)
/-- What is written from a place on, behind what was written before. -/
def quo (bs : List UInt8) : Nat → Nat → List UInt8 → Option (List UInt8)
  | 0, _, acc => some (acc ++ [34])
  | f + 1, k, acc => match esc (B bs k) with
    | none => none
    | some e => quo bs f (k + 1) (acc ++ e)
def quoted (bs : List UInt8) : Option (List UInt8) := if 64 < bs.length then none else quo bs bs.length 0 [34]

theorem esc_len {c : Int} {e : List UInt8} (h : esc c = some e) : 0 < e.length ∧ e.length ≤ 2 := by
  unfold esc at h
  repeat' split at h
  all_goals first
    | (cases h; simp; done)
    | cases h

theorem drop_B {bs : List UInt8} {k : Nat} (h : k < bs.length) : ∃ c, bs.drop k = c :: bs.drop (k + 1) ∧ (c.toNat : Int) = B bs k := by
  refine ⟨bs[k], List.drop_eq_getElem_cons h, ?_⟩
  unfold B
  rw [List.getElem?_eq_getElem h]
  rfl
theorem byteOf_nat (c : UInt8) : byteOf (c.toNat : Int) = c := by
  unfold byteOf
  simp
end Tx
namespace Tp

/-- The byte at a place, as a number; 0 behind the end. -/
def B (bs : List UInt8) (k : Nat) : Int := ((bs[k]?.getD 0).toNat : Int)
theorem B_bd (bs : List UInt8) (k : Nat) : 0 ≤ B bs k ∧ B bs k ≤ 255 := by
  unfold B
  have := (bs[k]?.getD 0).toNat_lt
  omega

/-- How many parts a head has; -1: it is none. -/
def ar (c : Int) : Int :=
  if c == 105 || c == 98 || c == 116 || c == 63 then 0 else if c == 108 || c == 120 then 1 else if c == 62 || c == 44 then 2 else -1
theorem ar_bd (c : Int) : -1 ≤ ar c ∧ ar c ≤ 2 := by unfold ar; repeat' split <;> omega

/-- m types still to come: how many bytes they take, and whether they are there. -/
def beh : List UInt8 → Nat → Nat × Bool
  | _, 0 => (0, true)
  | [], _ + 1 => (0, false)
  | c :: r, m + 1 => if ar c.toNat < 0 then (0, false) else ((beh r (m + (ar c.toNat).toNat)).1 + 1, (beh r (m + (ar c.toNat).toNat)).2)

theorem beh_zero (bs : List UInt8) : beh bs 0 = (0, true) := by cases bs <;> rfl
theorem beh_le : ∀ (bs : List UInt8) (m : Nat), (beh bs m).1 ≤ bs.length
  | bs, 0 => by rw [beh_zero]; exact Nat.zero_le _
  | [], m + 1 => by simp [beh]
  | c :: r, m + 1 => by
    unfold beh
    split
    · simp
    · have := beh_le r (m + (ar c.toNat).toNat)
      simpa using this

inductive Ty
  | ti | tb | tt | tq
  | tl (a : Ty) | tx (a : Ty)
  | tf (a b : Ty) | tp (a b : Ty)
  deriving DecidableEq

def enc : Ty → List UInt8
  | .ti => [105] | .tb => [98] | .tt => [116] | .tq => [63]
  | .tl a => 108 :: enc a | .tx a => 120 :: enc a
  | .tf a b => 62 :: (enc a ++ enc b) | .tp a b => 44 :: (enc a ++ enc b)
theorem enc_pos (t : Ty) : 0 < (enc t).length := by cases t <;> simp [enc]

theorem beh_cons (c : UInt8) (r : List UInt8) (m : Nat) (h : 0 ≤ ar c.toNat) : beh (c :: r) (m + 1) = ((beh r (m + (ar c.toNat).toNat)).1 + 1, (beh r (m + (ar c.toNat).toNat)).2) := by
  rw [beh, if_neg (by omega)]
theorem beh_enc : ∀ (t : Ty) (r : List UInt8) (m : Nat), beh (enc t ++ r) (m + 1) = ((enc t).length + (beh r m).1, (beh r m).2)
  | .ti, r, m => by rw [show enc .ti ++ r = 105 :: r from rfl, beh_cons _ _ _ (by decide), show m + (ar (105 : UInt8).toNat).toNat = m from rfl]; simp [enc]; omega
  | .tb, r, m => by rw [show enc .tb ++ r = 98 :: r from rfl, beh_cons _ _ _ (by decide), show m + (ar (98 : UInt8).toNat).toNat = m from rfl]; simp [enc]; omega
  | .tt, r, m => by rw [show enc .tt ++ r = 116 :: r from rfl, beh_cons _ _ _ (by decide), show m + (ar (116 : UInt8).toNat).toNat = m from rfl]; simp [enc]; omega
  | .tq, r, m => by rw [show enc .tq ++ r = 63 :: r from rfl, beh_cons _ _ _ (by decide), show m + (ar (63 : UInt8).toNat).toNat = m from rfl]; simp [enc]; omega
  | .tl a, r, m => by
    rw [show enc (.tl a) ++ r = 108 :: (enc a ++ r) from rfl, beh_cons _ _ _ (by decide), show m + (ar (108 : UInt8).toNat).toNat = m + 1 from rfl, beh_enc a r m]
    simp [enc]; omega
  | .tx a, r, m => by
    rw [show enc (.tx a) ++ r = 120 :: (enc a ++ r) from rfl, beh_cons _ _ _ (by decide), show m + (ar (120 : UInt8).toNat).toNat = m + 1 from rfl, beh_enc a r m]
    simp [enc]; omega
  | .tf a b, r, m => by
    rw [show enc (.tf a b) ++ r = 62 :: (enc a ++ (enc b ++ r)) from by simp [enc], beh_cons _ _ _ (by decide), show m + (ar (62 : UInt8).toNat).toNat = (m + 1) + 1 from rfl, beh_enc a _ (m + 1), beh_enc b r m]
    simp [enc]; omega
  | .tp a b, r, m => by
    rw [show enc (.tp a b) ++ r = 44 :: (enc a ++ (enc b ++ r)) from by simp [enc], beh_cons _ _ _ (by decide), show m + (ar (44 : UInt8).toNat).toNat = (m + 1) + 1 from rfl, beh_enc a _ (m + 1), beh_enc b r m]
    simp [enc]; omega

theorem ar_cases (c : UInt8) : (ar c.toNat = 0 ∧ (c = 105 ∨ c = 98 ∨ c = 116 ∨ c = 63)) ∨ (ar c.toNat = 1 ∧ (c = 108 ∨ c = 120)) ∨ (ar c.toNat = 2 ∧ (c = 62 ∨ c = 44)) ∨ ar c.toNat = -1 := by
  have key : ∀ n : Nat, ((c.toNat : Int) == n) = true → c = UInt8.ofNat n := by
    intro n h
    have h1 : (c.toNat : Int) = n := by simpa using h
    have h' : c.toNat = n := by omega
    rw [← h']; simp
  unfold ar
  split
  · rename_i h
    left; refine ⟨rfl, ?_⟩
    simp only [Bool.or_eq_true] at h
    rcases h with ((h | h) | h) | h
    · exact .inl (key 105 h)
    · exact .inr (.inl (key 98 h))
    · exact .inr (.inr (.inl (key 116 h)))
    · exact .inr (.inr (.inr (key 63 h)))
  · split
    · rename_i h
      right; left; refine ⟨rfl, ?_⟩
      simp only [Bool.or_eq_true] at h
      rcases h with h | h
      · exact .inl (key 108 h)
      · exact .inr (key 120 h)
    · split
      · rename_i h
        right; right; left; refine ⟨rfl, ?_⟩
        simp only [Bool.or_eq_true] at h
        rcases h with h | h
        · exact .inl (key 62 h)
        · exact .inr (key 44 h)
      · right; right; right; rfl

def encs (ts : List Ty) : List UInt8 := (ts.map enc).flatten
theorem encs_cons (t : Ty) (ts : List Ty) : encs (t :: ts) = enc t ++ encs ts := rfl

theorem beh_dec : ∀ (bs : List UInt8) (m e : Nat), beh bs m = (e, true) → ∃ ts : List Ty, ts.length = m ∧ bs.take e = encs ts
  | bs, 0, e => fun h => by
    rw [beh_zero] at h
    cases h
    exact ⟨[], rfl, rfl⟩
  | [], m + 1, e => fun h => by simp [beh] at h
  | c :: r, m + 1, e => fun h => by
    rcases ar_cases c with ⟨h0, hc⟩ | ⟨h0, hc⟩ | ⟨h0, hc⟩ | h0
    · rw [beh_cons _ _ _ (by omega), h0] at h
      obtain ⟨e', he, hb⟩ : ∃ e', e = e' + 1 ∧ beh r m = (e', true) := ⟨_, (Prod.mk.inj h).1.symm, Prod.ext rfl (Prod.mk.inj h).2⟩
      obtain ⟨ts, hl, ht⟩ := beh_dec r m e' hb
      subst he
      rcases hc with rfl | rfl | rfl | rfl
      · exact ⟨.ti :: ts, by simp [hl], by rw [List.take_succ_cons, ht]; rfl⟩
      · exact ⟨.tb :: ts, by simp [hl], by rw [List.take_succ_cons, ht]; rfl⟩
      · exact ⟨.tt :: ts, by simp [hl], by rw [List.take_succ_cons, ht]; rfl⟩
      · exact ⟨.tq :: ts, by simp [hl], by rw [List.take_succ_cons, ht]; rfl⟩
    · rw [beh_cons _ _ _ (by omega), h0] at h
      obtain ⟨e', he, hb⟩ : ∃ e', e = e' + 1 ∧ beh r (m + 1) = (e', true) := ⟨_, (Prod.mk.inj h).1.symm, Prod.ext rfl (Prod.mk.inj h).2⟩
      obtain ⟨ts, hl, ht⟩ := beh_dec r (m + 1) e' hb
      subst he
      match ts, hl with
      | a :: ts, hl =>
        rcases hc with rfl | rfl
        · exact ⟨.tl a :: ts, by simpa using hl, by rw [List.take_succ_cons, ht]; rfl⟩
        · exact ⟨.tx a :: ts, by simpa using hl, by rw [List.take_succ_cons, ht]; rfl⟩
    · rw [beh_cons _ _ _ (by omega), h0] at h
      obtain ⟨e', he, hb⟩ : ∃ e', e = e' + 1 ∧ beh r (m + 2) = (e', true) := ⟨_, (Prod.mk.inj h).1.symm, Prod.ext rfl (Prod.mk.inj h).2⟩
      obtain ⟨ts, hl, ht⟩ := beh_dec r (m + 2) e' hb
      subst he
      match ts, hl with
      | a :: b :: ts, hl =>
        rcases hc with rfl | rfl
        · exact ⟨.tf a b :: ts, by simpa using hl, by rw [List.take_succ_cons, ht]; simp [encs, enc]⟩
        · exact ⟨.tp a b :: ts, by simpa using hl, by rw [List.take_succ_cons, ht]; simp [encs, enc]⟩
    · rw [beh, if_pos (by omega)] at h
      simp at h

/-- P2.1: what is wrong with a text, and where; (0, 0): it is a type. -/
def chk (bs : List UInt8) : Nat × Nat :=
  if 64 < bs.length then (21, 64) else if (beh bs 1).2 && (beh bs 1).1 == bs.length then (0, 0) else (20, (beh bs 1).1)
theorem chk_long {bs : List UInt8} (h : 64 < bs.length) : chk bs = (21, 64) := by unfold chk; rw [if_pos h]
theorem chk_bad {bs : List UInt8} (h : ¬ 64 < bs.length) (h2 : (beh bs 1).2 = false ∨ (beh bs 1).1 ≠ bs.length) : chk bs = (20, (beh bs 1).1) := by
  unfold chk
  rw [if_neg h, if_neg]
  rcases h2 with h2 | h2 <;> simp [h2]
theorem chk_good {bs : List UInt8} (h : ¬ 64 < bs.length) (h2 : beh bs 1 = (bs.length, true)) : chk bs = (0, 0) := by
  unfold chk
  rw [if_neg h, h2]
  simp
theorem chk_enc (t : Ty) (h : (enc t).length ≤ 64) : chk (enc t) = (0, 0) := by
  refine chk_good (by omega) ?_
  have := beh_enc t [] 0
  rw [List.append_nil] at this
  rw [this, beh_zero]
  rfl
theorem chk_dec {bs : List UInt8} (h : (chk bs).1 = 0) : ∃ t, bs = enc t ∧ (enc t).length ≤ 64 := by
  unfold chk at h
  split at h
  · simp at h
  · split at h
    · rename_i h1 h2
      simp at h2
      obtain ⟨ts, hl, ht⟩ := beh_dec bs 1 bs.length (Prod.ext h2.2 h2.1)
      rw [List.take_length] at ht
      match ts, hl with
      | [t], _ =>
        have e : bs = enc t := by rw [ht]; simp [encs]
        exact ⟨t, e, by rw [← e]; omega⟩
    · simp at h
theorem chk_snd {bs : List UInt8} (h : (chk bs).1 = 0) : chk bs = (0, 0) := by
  obtain ⟨t, rfl, hl⟩ := chk_dec h
  exact chk_enc t hl

/-- Types stand apart: no beginning of one is one. -/
theorem drop_B {l : List UInt8} {k : Nat} (h : k < l.length) : ∃ c : UInt8, l.drop k = c :: l.drop (k + 1) ∧ (c.toNat : Int) = B l k := by
  refine ⟨l[k], List.drop_eq_getElem_cons h, ?_⟩
  unfold B
  rw [List.getElem?_eq_getElem h]
  rfl
/-- So far m types are still to come. -/
def Sofar (l : List UInt8) (k m : Nat) : Prop := beh l 1 = (k + (beh (l.drop k) m).1, (beh (l.drop k) m).2)
theorem Sofar.start (l : List UInt8) : Sofar l 0 1 := by unfold Sofar; simp
theorem Sofar.step {l : List UInt8} {k m : Nat} (h : Sofar l k (m + 1)) (hk : k < l.length) (ha : 0 ≤ ar (B l k)) : Sofar l (k + 1) (m + (ar (B l k)).toNat) := by
  unfold Sofar at *
  obtain ⟨c, hd, hc⟩ := drop_B hk
  rw [h, hd, beh_cons _ _ _ (by rw [hc]; exact ha), hc]
  simp; omega
theorem Sofar.zero {l : List UInt8} {k : Nat} (h : Sofar l k 0) : beh l 1 = (k, true) := by unfold Sofar at h; rw [h, beh_zero]; rfl
theorem Sofar.bad {l : List UInt8} {k m : Nat} (h : Sofar l k (m + 1)) (hk : k < l.length) (ha : ar (B l k) < 0) : beh l 1 = (k, false) := by
  unfold Sofar at h
  obtain ⟨c, hd, hc⟩ := drop_B hk
  rw [h, hd, beh, if_pos (by rw [hc]; exact ha)]
  rfl
theorem Sofar.early {l : List UInt8} {m : Nat} (h : Sofar l l.length (m + 1)) : beh l 1 = (l.length, false) := by
  unfold Sofar at h
  rw [h, List.drop_length]
  rfl
end Tp
namespace Tr

/-- A stack of counts, less the ones on top that are used up. -/
def popz : List Nat → List Nat
  | [] => []
  | 0 :: r => popz r
  | (m + 1) :: r => (m + 1) :: r
theorem popz_zero (r : List Nat) : popz (0 :: r) = popz r := rfl
theorem popz_succ (m : Nat) (r : List Nat) : popz ((m + 1) :: r) = (m + 1) :: r := rfl
theorem popz_form : ∀ st : List Nat, popz st = [] ∨ ∃ m r, popz st = (m + 1) :: r
  | [] => .inl rfl
  | 0 :: r => popz_form r
  | (m + 1) :: r => .inr ⟨m, r, rfl⟩
theorem popz_len : ∀ st : List Nat, (popz st).length ≤ st.length
  | [] => Nat.le_refl _
  | 0 :: r => Nat.le_succ_of_le (popz_len r)
  | (_ + 1) :: _ => Nat.le_refl _
theorem popz_sum : ∀ st : List Nat, (popz st).sum = st.sum
  | [] => rfl
  | 0 :: r => by rw [popz_zero, popz_sum r]; simp
  | (_ + 1) :: _ => rfl
theorem popz_nil {st : List Nat} : popz st = [] ↔ st.sum = 0 := by
  rw [← popz_sum]
  rcases popz_form st with h | ⟨m, r, h⟩ <;> rw [h] <;> simp <;> omega
/-- The count on top, one less. -/
def dec : List Nat → List Nat
  | [] => []
  | m :: r => (m - 1) :: r
theorem dec_len (st : List Nat) : (dec st).length = st.length := by cases st <;> rfl
/-- The stack behind a node of so many kids. -/
def nxt (st : List Nat) (k : Int) : List Nat := k.toNat :: dec (popz st)
theorem nxt_sum {st : List Nat} (h : popz st ≠ []) (k : Int) : (nxt st k).sum + 1 = st.sum + k.toNat := by
  rcases popz_form st with h' | ⟨m, r, h'⟩
  · exact absurd h' h
  · rw [← popz_sum st, nxt, h']; simp [dec]; omega

/-- From a node on, by the kids' numbers: is the part whole, and where does it end (or fail)? -/
def go : List Int → List Nat → Nat → Bool × Nat
  | [], st, i => (decide (popz st = []), i)
  | k :: ks, st, i => if popz st = [] then (true, i) else if k < 0 then (false, i) else go ks (nxt st k) (i + 1)
theorem go_done {ks : List Int} {st : List Nat} (h : popz st = []) (i : Nat) : go ks st i = (true, i) := by
  cases ks <;> simp [go, h]
theorem go_end {st : List Nat} (h : popz st ≠ []) (i : Nat) : go [] st i = (false, i) := by simp [go, h]
theorem go_neg {k : Int} {ks : List Int} {st : List Nat} (h : popz st ≠ []) (hk : k < 0) (i : Nat) : go (k :: ks) st i = (false, i) := by simp [go, h, hk]
theorem go_next {k : Int} {ks : List Int} {st : List Nat} (h : popz st ≠ []) (hk : 0 ≤ k) (i : Nat) : go (k :: ks) st i = go ks (nxt st k) (i + 1) := by
  rw [go, if_neg h, if_neg (by omega)]
theorem go_pop (ks : List Int) (r : List Nat) (i : Nat) : go ks (0 :: r) i = go ks r i := by
  cases ks <;> rfl

/-- The same by the sum alone. -/
def gs : List Int → Nat → Nat → Bool × Nat
  | _, 0, i => (true, i)
  | [], _ + 1, i => (false, i)
  | k :: ks, m + 1, i => if k < 0 then (false, i) else gs ks (m + k.toNat) (i + 1)
theorem gs_zero (ks : List Int) (i : Nat) : gs ks 0 i = (true, i) := by cases ks <;> rfl
theorem go_gs : ∀ (ks : List Int) (st : List Nat) (i : Nat), go ks st i = gs ks st.sum i
  | [], st, i => by
    by_cases h : popz st = []
    · rw [go_done h, popz_nil.1 h, gs_zero]
    · rw [go_end h]
      obtain ⟨m, hm⟩ : ∃ m, st.sum = m + 1 := ⟨st.sum - 1, by have := mt popz_nil.2 h; omega⟩
      rw [hm, gs]
  | k :: ks, st, i => by
    by_cases h : popz st = []
    · rw [go_done h, popz_nil.1 h, gs_zero]
    · obtain ⟨m, hm⟩ : ∃ m, st.sum = m + 1 := ⟨st.sum - 1, by have := mt popz_nil.2 h; omega⟩
      rw [hm, gs]
      by_cases hk : k < 0
      · rw [go_neg h hk, if_pos hk]
      · rw [go_next h (by omega), if_neg hk, go_gs ks, show (nxt st k).sum = m + k.toNat by have := nxt_sum h k; omega]
theorem gs_le : ∀ (ks : List Int) (m i : Nat), i ≤ (gs ks m i).2 ∧ (gs ks m i).2 ≤ i + ks.length
  | ks, 0, i => by rw [gs_zero]; simp
  | [], m + 1, i => by simp [gs]
  | k :: ks, m + 1, i => by
    rw [gs]
    split
    · simp
    · have := gs_le ks (m + k.toNat) (i + 1); simp; omega
theorem gs_pos {ks : List Int} {m i : Nat} (h : (gs ks (m + 1) i).1 = true) : i < (gs ks (m + 1) i).2 := by
  cases ks with
  | nil => simp [gs] at h
  | cons k ks =>
    rw [gs] at h ⊢
    split at h
    · simp at h
    · rename_i hk; rw [if_neg hk]; have := gs_le ks (m + k.toNat) (i + 1); omega
/-- More are asked for than are there. -/
theorem gs_many : ∀ (ks : List Int) (m i : Nat), ks.length < m → (gs ks m i).1 = false
  | ks, 0, i, h => by omega
  | [], m + 1, i, _ => rfl
  | k :: ks, m + 1, i, h => by
    rw [gs]
    split
    · rfl
    · exact gs_many ks _ _ (by simp at h; omega)
theorem gs_shift : ∀ (ks : List Int) (m i j : Nat), gs ks m (i + j) = ((gs ks m i).1, (gs ks m i).2 + j)
  | ks, 0, i, j => by rw [gs_zero, gs_zero]
  | [], m + 1, i, j => rfl
  | k :: ks, m + 1, i, j => by
    rw [gs, gs]
    split
    · rfl
    · rw [show i + j + 1 = i + 1 + j by omega, gs_shift]
/-- One part behind another. -/
theorem gs_add : ∀ (ks : List Int) (a b i : Nat), gs ks (a + b) i = if (gs ks a i).1 then gs (ks.drop ((gs ks a i).2 - i)) b (gs ks a i).2 else gs ks a i
  | ks, 0, b, i => by rw [gs_zero]; simp
  | [], a + 1, b, i => by rw [show a + 1 + b = (a + b) + 1 by omega]; simp [gs]
  | k :: ks, a + 1, b, i => by
    rw [show a + 1 + b = (a + b) + 1 by omega, gs, gs]
    split
    · simp
    · rw [show a + b + k.toNat = (a + k.toNat) + b by omega, gs_add]
      have := (gs_le ks (a + k.toNat) (i + 1)).1
      split
      · rw [show (gs ks (a + k.toNat) (i + 1)).2 - i = ((gs ks (a + k.toNat) (i + 1)).2 - (i + 1)) + 1 by omega, List.drop_succ_cons]
      · rfl
end Tr
namespace Tr
/-- A node as it lies in eight cells. -/
structure Nd where
  kind : Int
  kids : Int
  n : Int
  s : ByteArray
  t : ByteArray
  u : ByteArray
  ln : Int
  co : Int
deriving DecidableEq

/-- The depths of nodes, as far as parts are open. -/
def dps : List Int → List Nat → List Nat
  | [], _ => []
  | k :: ks, st => if popz st = [] then [] else (popz st).length :: dps ks (nxt st k)
theorem dps_done {ks : List Int} {st : List Nat} (h : popz st = []) : dps ks st = [] := by cases ks <;> simp [dps, h]
theorem dps_next {k : Int} {ks : List Int} {st : List Nat} (h : popz st ≠ []) : dps (k :: ks) st = (popz st).length :: dps ks (nxt st k) := by simp [dps, h]
theorem dps_le : ∀ (ks : List Int) (st : List Nat), (dps ks st).length ≤ ks.length
  | [], st => by simp [dps]
  | k :: ks, st => by
    rw [dps]; split
    · simp
    · have := dps_le ks (nxt st k); simp; omega

def fin (dp : Nat) : Nat × Nat := if 0 < dp then (16, dp) else (0, 0)
/-- The check, node by node: may tells which nodes may be. -/
def ck (may : Nd → Bool) : List Nd → List Nat → Nat → Nat → Nat × Nat
  | [], st, i, dp => if popz st = [] then fin dp else (18, i)
  | x :: xs, st, i, dp => if popz st = [] then (18, i) else if may x = false then (18, i) else ck may xs (nxt st x.kids) (i + 1) (if 64 < (popz st).length ∧ dp = 0 then i else dp)
def check (may : Nd → Bool) (l : List Nd) : Nat × Nat := if l.length = 0 ∨ 4096 < l.length then (17, 0) else ck may l [1] 0 0

/-- As the document says it. -/
def bad (may : Nd → Bool) : List Nd → List Nat → Nat → Option Nat
  | [], _, _ => none
  | _ :: _, [], i => some i
  | x :: xs, _ :: ds, i => if may x = false then some i else bad may xs ds (i + 1)
def deep : List Nat → Nat → Option Nat
  | [], _ => none
  | d :: ds, i => if 64 < d then some i else deep ds (i + 1)
def fin2 (dp : Nat) : Option Nat → Nat × Nat
  | some j => if 0 < dp then (16, dp) else (16, j)
  | none => fin dp
theorem ck_ref (may : Nd → Bool) (hm : ∀ x, may x = true → 0 ≤ x.kids) : ∀ (l : List Nd) (st : List Nat) (i dp : Nat), st.length ≤ i + 1 →
    ck may l st i dp = match bad may l (dps (l.map (·.kids)) st) i with
      | some j => (18, j)
      | none => if go (l.map (·.kids)) st i = (true, i + l.length) then fin2 dp (deep (dps (l.map (·.kids)) st) i) else (18, i + l.length)
  | [], st, i, dp, hi => by
    by_cases h : popz st = []
    · simp [ck, h, bad, dps, go, deep, fin2]
    · simp [ck, h, bad, go]
  | x :: xs, st, i, dp, hi => by
    by_cases h : popz st = []
    · simp [ck, h, dps, bad]
    · have hpl := popz_len st
      rw [List.map_cons, dps_next h, ck, if_neg h, bad]
      by_cases hx : may x = false
      · rw [if_pos hx, if_pos hx]
      · have hk := hm x (by simpa using hx)
        rw [if_neg hx, if_neg hx, ck_ref may hm xs _ _ _ (by rw [nxt, List.length_cons, dec_len]; omega), go_next h hk]
        cases bad may xs (dps (xs.map (·.kids)) (nxt st x.kids)) (i + 1) with
        | some j => rfl
        | none =>
          simp only
          rw [show i + 1 + xs.length = i + (x :: xs).length by simp; omega]
          split
          · rw [deep]
            by_cases hd : 64 < (popz st).length
            · have hi0 : 0 < i := by omega
              rw [if_pos hd]
              by_cases h0 : dp = 0
              · subst h0
                rw [if_pos ⟨hd, rfl⟩]
                cases deep (dps (xs.map (·.kids)) (nxt st x.kids)) (i + 1) <;> simp [fin2, fin, hi0]
              · have h1 : 0 < dp := by omega
                rw [if_neg (fun h => h0 h.2)]
                cases deep (dps (xs.map (·.kids)) (nxt st x.kids)) (i + 1) <;> simp [fin2, fin, h1]
            · rw [if_neg hd, if_neg (fun h => hd h.1)]
          · rfl
theorem bad_end {may : Nd → Bool} : ∀ {l : List Nd} {ds : List Nat} {i : Nat}, bad may l ds i = none → (∀ x ∈ l, may x = true) ∧ l.length ≤ ds.length
  | [], _, _, _ => ⟨by simp, by simp⟩
  | x :: xs, [], i, h => by simp [bad] at h
  | x :: xs, d :: ds, i, h => by
    rw [bad] at h
    split at h
    · simp at h
    · rename_i hx
      obtain ⟨h1, h2⟩ := bad_end h
      exact ⟨by intro y hy; rcases List.mem_cons.1 hy with rfl | hy; · simpa using hx
                exact h1 y hy, by simpa using h2⟩
end Tr
namespace Tr
/-- A tree, and its list of nodes. -/
inductive T where
  | nd (x : Nd) (ks : List T)
mutual
def flat : T → List Nd
  | .nd x ks => x :: flats ks
def flats : List T → List Nd
  | [] => []
  | t :: r => flat t ++ flats r
end
mutual
def high : T → Nat
  | .nd _ ks => highs ks + 1
def highs : List T → Nat
  | [] => 0
  | t :: r => max (high t) (highs r)
end
mutual
def wf : T → Prop
  | .nd x ks => x.kids = ks.length ∧ wfs ks
def wfs : List T → Prop
  | [] => True
  | t :: r => wf t ∧ wfs r
end
mutual
/-- The depths of a tree's nodes, its root's being d. -/
def dpT (d : Nat) : T → List Nat
  | .nd _ ks => d :: dpL (d + 1) ks
def dpL (d : Nat) : List T → List Nat
  | [] => []
  | t :: r => dpT d t ++ dpL d r
end
theorem flats_append : ∀ (a b : List T), flats (a ++ b) = flats a ++ flats b
  | [], b => by simp [flats]
  | t :: a, b => by simp [flats, flats_append a b]
theorem wfs_append : ∀ (a b : List T), wfs (a ++ b) ↔ wfs a ∧ wfs b
  | [], b => by simp [wfs]
  | t :: a, b => by simp [wfs, wfs_append a b, and_assoc]
theorem flat_pos (t : T) : 0 < (flat t).length := by cases t; simp [flat]
/-- The numbers of kids of a list. -/
def kd (l : List Nd) : List Int := l.map (·.kids)
theorem kd_len (l : List Nd) : (kd l).length = l.length := by simp [kd]
theorem kd_append (a b : List Nd) : kd (a ++ b) = kd a ++ kd b := by simp [kd]
theorem kd_drop (l : List Nd) (n : Nat) : kd (l.drop n) = (kd l).drop n := by simp [kd]
mutual
theorem gs_flat : ∀ (t : T) (rest : List Nd) (m i : Nat), wf t → gs (kd (flat t ++ rest)) (m + 1) i = gs (kd rest) m (i + (flat t).length)
  | .nd x ks, rest, m, i, h => by
    rw [wf] at h
    simp only [flat, kd, List.cons_append, List.map_cons, gs]
    rw [if_neg (by rw [h.1]; omega), h.1]
    have := gs_flats ks rest m (i + 1) h.2
    simp only [kd] at this
    rw [show (m : Nat) + (ks.length : Int).toNat = m + ks.length by simp, this]
    simp; congr 1; omega
theorem gs_flats : ∀ (ts : List T) (rest : List Nd) (m i : Nat), wfs ts → gs (kd (flats ts ++ rest)) (m + ts.length) i = gs (kd rest) m (i + (flats ts).length)
  | [], rest, m, i, _ => by simp [flats]
  | t :: r, rest, m, i, h => by
    rw [wfs] at h
    rw [flats, List.append_assoc, show m + (t :: r).length = (m + r.length) + 1 by simp; omega, gs_flat t _ _ _ h.1, gs_flats r _ _ _ h.2]
    simp [Nat.add_assoc]
end
/-- What is whole is some trees. -/
theorem trees : ∀ (n : Nat) (l : List Nd) (m i j : Nat), l.length ≤ n → gs (kd l) m i = (true, j) → ∃ ts rest, ts.length = m ∧ wfs ts ∧ l = flats ts ++ rest ∧ j = i + (flats ts).length
  | n, l, 0, i, j, _, h => ⟨[], l, rfl, trivial, rfl, by rw [gs_zero] at h; simp at h; simp [flats, h]⟩
  | n, [], m + 1, i, j, _, h => by simp [kd, gs] at h
  | 0, x :: xs, m + 1, i, j, hn, h => by simp at hn
  | n + 1, x :: xs, m + 1, i, j, hn, h => by
    simp only [kd, List.map_cons, gs] at h
    split at h
    · simp at h
    · rename_i hk
      obtain ⟨ts, rest, h1, h2, h3, h4⟩ := trees n xs (m + x.kids.toNat) (i + 1) j (by simp at hn; omega) h
      refine ⟨.nd x (ts.take x.kids.toNat) :: ts.drop x.kids.toNat, rest, by simp; omega, ?_, ?_, ?_⟩
      · have := (wfs_append (ts.take x.kids.toNat) (ts.drop x.kids.toNat)).1 (by rw [List.take_append_drop]; exact h2)
        rw [wfs, wf]
        exact ⟨⟨by simp; omega, this.1⟩, this.2⟩
      · rw [flats, flat, h3]
        simp only [List.cons_append]
        rw [← flats_append, List.take_append_drop]
      · rw [flats, flat, List.cons_append, ← flats_append, List.take_append_drop, h4]
        simp; omega
theorem dps_pop (ks : List Int) (r : List Nat) : dps ks (0 :: r) = dps ks r := by cases ks <;> rfl
mutual
theorem dps_flat : ∀ (t : T) (rest : List Nd) (m : Nat) (st : List Nat), wf t → dps (kd (flat t ++ rest)) ((m + 1) :: st) = dpT (st.length + 1) t ++ dps (kd rest) (m :: st)
  | .nd x ks, rest, m, st, h => by
    rw [wf] at h
    simp only [flat, kd, List.cons_append, List.map_cons]
    rw [dps_next (by simp [popz]), popz_succ, dpT, nxt, popz_succ, dec, h.1]
    have := dps_flats ks rest 0 (m :: st) h.2
    simp only [kd, Nat.zero_add] at this
    simp only [Int.toNat_natCast, Nat.add_sub_cancel]
    rw [this, dps_pop]
    simp
theorem dps_flats : ∀ (ts : List T) (rest : List Nd) (m : Nat) (st : List Nat), wfs ts → dps (kd (flats ts ++ rest)) ((m + ts.length) :: st) = dpL (st.length + 1) ts ++ dps (kd rest) (m :: st)
  | [], rest, m, st, _ => by simp [flats, dpL]
  | t :: r, rest, m, st, h => by
    rw [wfs] at h
    rw [flats, List.append_assoc, show m + (t :: r).length = (m + r.length) + 1 by simp; omega, dps_flat t _ _ _ h.1, dps_flats r _ _ _ h.2, dpL]
    simp
end
/-- The greatest. -/
def mx : List Nat → Nat → Nat
  | [], a => a
  | d :: ds, a => mx ds (max a d)
theorem mx_append : ∀ (a b : List Nat) (n : Nat), mx (a ++ b) n = mx b (mx a n)
  | [], b, n => rfl
  | d :: a, b, n => by simp [mx, mx_append a b]
mutual
theorem mx_dpT : ∀ (t : T) (d a : Nat), mx (dpT d t) a = max a (d + high t - 1)
  | .nd x ks, d, a => by rw [dpT, mx, mx_dpL, high]; split <;> omega
theorem mx_dpL : ∀ (ts : List T) (d a : Nat), mx (dpL d ts) a = max a (if highs ts = 0 then 0 else d + highs ts - 1)
  | [], d, a => by simp [dpL, mx, highs]
  | t :: r, d, a => by
    have hp : 0 < high t := by cases t; simp [high]
    rw [dpL, mx_append, mx_dpT, mx_dpL, highs]
    split <;> split <;> omega
end
/-- A whole list is one tree. -/
theorem whole {l : List Nd} (h : gs (kd l) 1 0 = (true, l.length)) : ∃ t, wf t ∧ l = flat t := by
  obtain ⟨ts, rest, h1, h2, h3, h4⟩ := trees _ l 1 0 _ (Nat.le_refl _) h
  obtain ⟨t, rfl⟩ : ∃ t, ts = [t] := List.length_eq_one_iff.1 h1
  simp [flats] at h3 h4
  have : rest = [] := by
    have := congrArg List.length h3; simp at this; exact List.length_eq_zero_iff.1 (by omega)
  subst this
  exact ⟨t, h2.1, by simpa using h3⟩
end Tr
namespace Tr
/-- What stands ahead of the first blank, what behind it, and whether there is one. -/
def cut32 : List UInt8 → List UInt8 × List UInt8 × Bool
  | [] => ([], [], false)
  | c :: r => if c = 32 then ([], r, true) else (c :: (cut32 r).1, (cut32 r).2.1, (cut32 r).2.2)
def nm (x : Nd) : List UInt8 := x.s.data.toList
/-- The names that a node binds in its kid number j. -/
def binds (x : Nd) (j : Nat) : List (List UInt8) :=
  if x.kind = 5 then [nm x] else if x.kind = 6 then [(cut32 (nm x)).1, (cut32 (nm x)).2.1] else if x.kind = 8 ∧ j = 1 then [nm x] else []
/-- Of each node: the name that stands free there. -/
def ob1 (b : List (List UInt8)) (x : Nd) : Option (List UInt8) := if x.kind = 4 ∧ nm x ∉ b then some (nm x) else none
mutual
def obT (b : List (List UInt8)) : T → List (Option (List UInt8))
  | .nd x ks => ob1 b x :: obL b x 0 ks
def obL (b : List (List UInt8)) (x : Nd) (j : Nat) : List T → List (Option (List UInt8))
  | [] => []
  | t :: r => obT (binds x j ++ b) t ++ obL b x (j + 1) r
end
def add1 (acc : List (List UInt8)) : Option (List UInt8) → List (List UInt8)
  | none => acc
  | some n => if n ∈ acc then acc else acc ++ [n]
def adds (acc : List (List UInt8)) (l : List (Option (List UInt8))) : List (List UInt8) := l.foldl add1 acc
theorem adds_append (acc : List (List UInt8)) (a b : List (Option (List UInt8))) : adds acc (a ++ b) = adds (adds acc a) b := by simp [adds]
/-- The free names of a tree. -/
def free (t : T) : List (List UInt8) := adds [] (obT [] t)
end Tr
namespace Tr
/-- Where the part at a place ends; 0: there is none. -/
def bh (l : List Nd) (i : Nat) : Nat := if i < l.length ∧ (gs (kd (l.drop i)) 1 i).1 = true then (gs (kd (l.drop i)) 1 i).2 else 0
theorem bh_tree {l : List Nd} {i : Nat} {t : T} {rest : List Nd} (h : l.drop i = flat t ++ rest) (hw : wf t) : bh l i = i + (flat t).length := by
  have hg := gs_flat t rest 0 i hw
  rw [← h, gs_zero] at hg
  have hi : i < l.length := by
    have := congrArg List.length h; have := flat_pos t; simp at *; omega
  unfold bh
  rw [hg]
  simp [hi]
theorem bh_some {l : List Nd} {i : Nat} (h : bh l i ≠ 0) : ∃ t rest, wf t ∧ l.drop i = flat t ++ rest := by
  unfold bh at h
  split at h
  · rename_i hc
    obtain ⟨ts, rest, h1, h2, h3, _⟩ := trees _ (l.drop i) 1 i (gs (kd (l.drop i)) 1 i).2 (Nat.le_refl _) (Prod.ext hc.2 rfl)
    obtain ⟨t, rfl⟩ := List.length_eq_one_iff.1 h1
    simp [flats] at h3
    exact ⟨t, rest, h2.1, h3⟩
  · exact absurd rfl h
mutual
theorem sub_T : ∀ (t : T) (q : Nat), wf t → q < (flat t).length → ∃ t' r', (flat t).drop q = flat t' ++ r' ∧ wf t' ∧ high t' ≤ high t
  | .nd x ks, 0, h, _ => ⟨.nd x ks, [], by simp, h, Nat.le_refl _⟩
  | .nd x ks, q + 1, h, hq => by
    rw [wf] at h
    obtain ⟨t', r', h1, h2, h3⟩ := sub_L ks q h.2 (by simp [flat] at hq; omega)
    exact ⟨t', r', by simpa [flat] using h1, h2, by rw [high]; omega⟩
theorem sub_L : ∀ (ts : List T) (q : Nat), wfs ts → q < (flats ts).length → ∃ t' r', (flats ts).drop q = flat t' ++ r' ∧ wf t' ∧ high t' ≤ highs ts
  | [], q, _, hq => by simp [flats] at hq
  | t :: r, q, h, hq => by
    rw [wfs] at h
    rw [flats, List.length_append] at hq
    rw [flats, highs]
    by_cases hc : q < (flat t).length
    · obtain ⟨t', r', h1, h2, h3⟩ := sub_T t q h.1 hc
      exact ⟨t', r' ++ flats r, by rw [List.drop_append_of_le_length (by omega), h1, List.append_assoc], h2, by omega⟩
    · obtain ⟨t', r', h1, h2, h3⟩ := sub_L r (q - (flat t).length) h.2 (by omega)
      exact ⟨t', r', by rw [List.drop_append, List.drop_eq_nil_of_le (by omega), List.nil_append, h1], h2, by omega⟩
end
/-- Parts end within what holds them. -/
theorem ends_in {ts : List T} {l rest : List Nd} {p : Nat} (hw : wfs ts) (h : l.drop p = flats ts ++ rest) {q : Nat} (hq : q < (flats ts).length) : bh l (p + q) ≤ p + (flats ts).length ∧ p + q < bh l (p + q) := by
  obtain ⟨t', r', h1, h2, _⟩ := sub_L ts q hw hq
  have hd : l.drop (p + q) = flat t' ++ (r' ++ rest) := by
    rw [← List.drop_drop, h, List.drop_append_of_le_length (by omega), h1, List.append_assoc]
  rw [bh_tree hd h2]
  have := congrArg List.length h1
  have := flat_pos t'
  simp at *
  omega
/-- Where a node's kids begin. -/
def kidAt (l : List Nd) (i : Nat) : Nat → Nat
  | 0 => i + 1
  | k + 1 => bh l (kidAt l i k)
theorem kidAt_tree {l rest : List Nd} {p : Nat} {x : Nd} {ks : List T} (hw : wfs ks) (h : l.drop p = flat (.nd x ks) ++ rest) : ∀ k, k ≤ ks.length → kidAt l p k = p + 1 + (flats (ks.take k)).length
  | 0, _ => by simp [kidAt, flats]
  | k + 1, hk => by
    have ih := kidAt_tree hw h k (by omega)
    have hkl : k < ks.length := by omega
    have hd : l.drop (p + 1 + (flats (ks.take k)).length) = flat ks[k] ++ (flats (ks.drop (k + 1)) ++ rest) := by
      rw [← List.drop_drop, ← List.drop_drop, h, flat, List.cons_append, List.drop_succ_cons, List.drop_zero]
      have e : flats ks = flats (ks.take k) ++ flats (ks.drop k) := by rw [← flats_append, List.take_append_drop]
      rw [e, List.append_assoc, List.drop_left' rfl, List.drop_eq_getElem_cons hkl, flats, List.append_assoc]
    have hwk : wf ks[k] := by
      have := (wfs_append (ks.take k) (ks.drop k)).1 (by rw [List.take_append_drop]; exact hw)
      rw [List.drop_eq_getElem_cons hkl, wfs] at this
      exact this.2.1
    rw [kidAt, ih, bh_tree hd hwk, List.take_add_one, List.getElem?_eq_getElem hkl, flats_append]
    simp [flats]; omega
/-- A node from p on, above the one at a place, binds a name. -/
def inn (l : List Nd) (p at' : Nat) (n : List UInt8) : Prop :=
  ∃ i, p ≤ i ∧ i < at' ∧ at' < bh l i ∧ ∃ x, l[i]? = some x ∧ ∃ k, k < x.kids.toNat ∧ kidAt l i k ≤ at' ∧ at' < bh l (kidAt l i k) ∧ n ∈ binds x k
/-- One of some kids that holds a place binds a name. -/
def among (x : Nd) (j : Nat) (ts : List T) (q : Nat) (n : List UInt8) : Prop :=
  ∃ k, k < ts.length ∧ (flats (ts.take k)).length ≤ q ∧ q < (flats (ts.take (k + 1))).length ∧ n ∈ binds x (j + k)
def Tells (o : Option (List UInt8)) (y : Nd) (c : Prop) : Prop := (c ∧ o = some (nm y)) ∨ (¬ c ∧ o = none)
theorem Tells.iff {o : Option (List UInt8)} {y : Nd} {c d : Prop} (h : Tells o y c) (e : c ↔ d) : Tells o y d := by
  unfold Tells at *; rw [← e]; exact h
theorem at_drop {l m : List Nd} {p q : Nat} (h : l.drop p = m) : l[p + q]? = m[q]? := by rw [← h, List.getElem?_drop]
mutual
theorem ob_T : ∀ (t : T) (l rest : List Nd) (p : Nat) (b : List (List UInt8)) (q : Nat), wf t → l.drop p = flat t ++ rest → q < (flat t).length →
    ∃ y o, l[p + q]? = some y ∧ (obT b t)[q]? = some o ∧ Tells o y (y.kind = 4 ∧ nm y ∉ b ∧ ¬ inn l p (p + q) (nm y))
  | .nd x ks, l, rest, p, b, 0, h, hd, _ => by
    refine ⟨x, ob1 b x, by rw [at_drop hd]; simp [flat], by simp [obT], ?_⟩
    have hn : ¬ inn l p (p + 0) (nm x) := by rintro ⟨i, h1, h2, _⟩; omega
    unfold Tells ob1
    by_cases hc : x.kind = 4 ∧ nm x ∉ b
    · exact .inl ⟨⟨hc.1, hc.2, hn⟩, if_pos hc⟩
    · exact .inr ⟨fun h => hc ⟨h.1, h.2.1⟩, if_neg hc⟩
  | .nd x ks, l, rest, p, b, q + 1, h, hd, hq => by
    rw [wf] at h
    have hd' : l.drop (p + 1) = flats ks ++ rest := by
      rw [← List.drop_drop, hd, flat, List.cons_append, List.drop_succ_cons, List.drop_zero]
    have hq' : q < (flats ks).length := by simp [flat] at hq; omega
    obtain ⟨y, o, h1, h2, h3⟩ := ob_L ks l rest (p + 1) b x 0 q h.2 hd' hq'
    rw [show p + 1 + q = p + (q + 1) by omega] at h1 h3
    refine ⟨y, o, h1, by simpa [obT] using h2, h3.iff ?_⟩
    have hx : l[p]? = some x := by have := at_drop (q := 0) hd; simpa [flat] using this
    have he : bh l p = p + 1 + (flats ks).length := by rw [bh_tree hd (by rw [wf]; exact h)]; simp [flat]; omega
    have key : inn l p (p + (q + 1)) (nm y) ↔ among x 0 ks q (nm y) ∨ inn l (p + 1) (p + (q + 1)) (nm y) := by
      constructor
      · rintro ⟨i, e1, e2, e3, z, e4, k, e5, e6, e7, e8⟩
        by_cases hi : i = p
        · subst hi
          rw [hx] at e4; cases e4
          rw [h.1] at e5
          simp at e5
          have k1 := kidAt_tree h.2 hd k (by omega)
          have k2 := kidAt_tree h.2 hd (k + 1) (by omega)
          rw [kidAt] at k2
          exact .inl ⟨k, e5, by omega, by omega, by simpa using e8⟩
        · exact .inr ⟨i, by omega, e2, e3, z, e4, k, e5, e6, e7, e8⟩
      · rintro (⟨k, e1, e2, e3, e4⟩ | ⟨i, e1, e2, e3, z, e4, k, e5, e6, e7, e8⟩)
        · have k1 := kidAt_tree h.2 hd k (by omega)
          have k2 := kidAt_tree h.2 hd (k + 1) (by omega)
          rw [kidAt] at k2
          exact ⟨p, Nat.le_refl _, by omega, by rw [he]; omega, x, hx, k, by rw [h.1]; simpa using e1, by omega, by omega, by simpa using e4⟩
        · exact ⟨i, by omega, e2, e3, z, e4, k, e5, e6, e7, e8⟩
    rw [key]
    constructor
    · rintro ⟨a, b', c, d⟩; exact ⟨a, b', fun hh => hh.elim c d⟩
    · rintro ⟨a, b', c⟩; exact ⟨a, b', fun hh => c (.inl hh), fun hh => c (.inr hh)⟩
theorem ob_L : ∀ (ts : List T) (l rest : List Nd) (p : Nat) (b : List (List UInt8)) (x : Nd) (j q : Nat), wfs ts → l.drop p = flats ts ++ rest → q < (flats ts).length →
    ∃ y o, l[p + q]? = some y ∧ (obL b x j ts)[q]? = some o ∧ Tells o y (y.kind = 4 ∧ nm y ∉ b ∧ ¬ among x j ts q (nm y) ∧ ¬ inn l p (p + q) (nm y))
  | [], l, rest, p, b, x, j, q, _, _, hq => by simp [flats] at hq
  | t :: r, l, rest, p, b, x, j, q, h, hd, hq => by
    rw [wfs] at h
    have hlen := ob_len (binds x j ++ b) t
    rw [flats, List.append_assoc] at hd
    by_cases hc : q < (flat t).length
    · obtain ⟨y, o, h1, h2, h3⟩ := ob_T t l _ p (binds x j ++ b) q h.1 hd hc
      refine ⟨y, o, h1, by rw [obL, List.getElem?_append_left (by omega)]; exact h2, h3.iff ?_⟩
      have key : among x j (t :: r) q (nm y) ↔ nm y ∈ binds x j := by
        constructor
        · rintro ⟨k, e1, e2, e3, e4⟩
          cases k with
          | zero => simpa using e4
          | succ k => rw [List.take_succ_cons, flats, List.length_append] at e2; omega
        · intro hh
          exact ⟨0, by simp, by simp [flats], by simpa [flats] using hc, by simpa using hh⟩
      rw [key, List.mem_append]
      constructor
      · rintro ⟨a, b', c⟩; exact ⟨a, fun hh => b' (.inr hh), fun hh => b' (.inl hh), c⟩
      · rintro ⟨a, b', c, d⟩; exact ⟨a, fun hh => hh.elim c b', d⟩
    · have hd' : l.drop (p + (flat t).length) = flats r ++ rest := by
        rw [← List.drop_drop, hd, List.drop_left' rfl]
      have hq' : q - (flat t).length < (flats r).length := by rw [flats, List.length_append] at hq; omega
      obtain ⟨y, o, h1, h2, h3⟩ := ob_L r l rest (p + (flat t).length) b x (j + 1) (q - (flat t).length) h.2 hd' hq'
      rw [show p + (flat t).length + (q - (flat t).length) = p + q by omega] at h1 h3
      refine ⟨y, o, h1, by rw [obL, List.getElem?_append_right (by omega), hlen]; exact h2, h3.iff ?_⟩
      have key : among x j (t :: r) q (nm y) ↔ among x (j + 1) r (q - (flat t).length) (nm y) := by
        constructor
        · rintro ⟨k, e1, e2, e3, e4⟩
          cases k with
          | zero => simp [flats] at e3; omega
          | succ k =>
            rw [List.take_succ_cons, flats, List.length_append] at e2 e3
            exact ⟨k, by simpa using e1, by omega, by omega, by rw [show j + 1 + k = j + (k + 1) by omega]; exact e4⟩
        · rintro ⟨k, e1, e2, e3, e4⟩
          exact ⟨k + 1, by simpa using e1, by rw [List.take_succ_cons, flats, List.length_append]; omega, by rw [List.take_succ_cons, flats, List.length_append]; omega, by rw [show j + (k + 1) = j + 1 + k by omega]; exact e4⟩
      have key2 : inn l p (p + q) (nm y) ↔ inn l (p + (flat t).length) (p + q) (nm y) := by
        constructor
        · rintro ⟨i, e1, e2, e3, rr⟩
          refine ⟨i, ?_, e2, e3, rr⟩
          by_cases hi : p + (flat t).length ≤ i
          · exact hi
          · exfalso
            have := (ends_in (ts := [t]) (l := l) (rest := flats r ++ rest) (p := p) ⟨h.1, trivial⟩ (by simpa [flats] using hd) (q := i - p) (by simp [flats]; omega)).1
            rw [show p + (i - p) = i by omega] at this
            simp [flats] at this
            omega
        · rintro ⟨i, e1, rr⟩
          exact ⟨i, by omega, rr⟩
      rw [key, key2]
theorem ob_len : ∀ (b : List (List UInt8)) (t : T), (obT b t).length = (flat t).length
  | b, .nd x ks => by rw [obT, flat, List.length_cons, List.length_cons, ob_lens]
theorem ob_lens : ∀ (b : List (List UInt8)) (x : Nd) (j : Nat) (ts : List T), (obL b x j ts).length = (flats ts).length
  | b, x, j, [] => by simp [obL, flats]
  | b, x, j, t :: r => by rw [obL, flats, List.length_append, List.length_append, ob_len, ob_lens]
end
end Tr
end Go.Proofs.YtpikfdkgblghhaaGreatDoor
