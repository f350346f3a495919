/- Plain facts: letters, names, texts, types, and trees as lists of nodes. Nothing of the program is named here. What the program's and the document's questions about one byte answer; small facts on memory. -/
import Derived.Below
import Derived.Test.YthdlfeejeboboaaGreatDoorRows
import Derived.WalkKit
import Derived.WalkSpells
import Derived.WalkLawsBesides
import Derived.Deep.LoopGhost
import Derived.Deep.QuietTactic
import Derived.BigQuiet
namespace Go.Proofs.YthdlfeejeboboaaGreatDoor
set_option maxRecDepth 100000
namespace Tx

def B (bs : List UInt8) (k : Nat) : Int := ((bs[k]?.getD 0).toNat : Int)
theorem B_bd (bs : List UInt8) (k : Nat) : 0 ≤ B bs k ∧ B bs k ≤ 255 := by
  unfold B
  have := (bs[k]?.getD 0).toNat_lt
  omega

def letterB (c : Int) : Bool := decide (97 ≤ c) && decide (c ≤ 122) || decide (65 ≤ c) && decide (c ≤ 90)
def digitB (c : Int) : Bool := decide (48 ≤ c) && decide (c ≤ 57)
def innerB (c : Int) : Bool := letterB c || digitB c || c == 95
def seenB (c : Int) : Bool := decide (32 ≤ c) && decide (c ≤ 126)

def scan (p : Int → Bool) (bs : List UInt8) : Nat → Nat → Nat
  | 0, k => k
  | f + 1, k => if k < bs.length then (if p (B bs k) then scan p bs f (k + 1) else k) else k
def upTo (p : Int → Bool) (bs : List UInt8) (k : Nat) : Nat := scan p bs (bs.length - k) k

theorem upTo_in {p : Int → Bool} {bs : List UInt8} {k : Nat} (h : k < bs.length) (hp : p (B bs k) = true) : upTo p bs k = upTo p bs (k + 1) := by
  unfold upTo
  rw [show bs.length - k = (bs.length - (k + 1)) + 1 by omega]
  simp [scan, h, hp]
theorem upTo_out {p : Int → Bool} {bs : List UInt8} {k : Nat} (h : k < bs.length) (hp : p (B bs k) = false) : upTo p bs k = k := by
  unfold upTo
  rw [show bs.length - k = (bs.length - (k + 1)) + 1 by omega]
  simp [scan, h, hp]
theorem upTo_end {p : Int → Bool} {bs : List UInt8} {k : Nat} (h : bs.length ≤ k) : upTo p bs k = k := by
  unfold upTo
  rw [show bs.length - k = 0 by omega]
  rfl

def words : List (List UInt8) := [[109, 111, 100, 117, 108, 101], [105, 109, 112, 111, 114, 116], [101, 120, 112, 111, 114, 116], [108, 101, 116], [114, 101, 99], [105, 110], [105, 102], [116, 104, 101, 110], [101, 108, 115, 101], [102, 110], [116, 114, 117, 101], [102, 97, 108, 115, 101], [105, 110, 116], [98, 111, 111, 108], [116, 101, 120, 116], [98, 111, 120], [102, 105, 114, 115, 116], [115, 101, 99, 111, 110, 100], [104, 101, 97, 100], [116, 97, 105, 108], [101, 109, 112, 116, 121], [99, 111, 110, 115], [115, 105, 122, 101]]
def wordB (l : List UInt8) : Bool := words.contains l
def byteOf (c : Int) : UInt8 := UInt8.ofNat c.toNat
theorem byteOf_toNat {c : Int} (h : 0 ≤ c ∧ c ≤ 255) : ((byteOf c).toNat : Int) = c := by
  unfold byteOf
  have : c.toNat < 256 := by omega
  rw [UInt8.toNat_ofNat_of_lt' (by simpa using this)]
  omega
def esc (c : Int) : Option (List UInt8) :=
  if c == 10 then some [92, 110] else if c == 34 || c == 92 then some [92, byteOf c] else if seenB c then some [byteOf c] else none
def quo (bs : List UInt8) : Nat → Nat → List UInt8 → Option (List UInt8)
  | 0, _, acc => some (acc ++ [34])
  | f + 1, k, acc => match esc (B bs k) with
    | none => none
    | some e => quo bs f (k + 1) (acc ++ e)
def quoted (bs : List UInt8) : Option (List UInt8) := if 64 < bs.length then none else quo bs bs.length 0 [34]

theorem drop_B {bs : List UInt8} {k : Nat} (h : k < bs.length) : ∃ c, bs.drop k = c :: bs.drop (k + 1) ∧ (c.toNat : Int) = B bs k := by
  refine ⟨bs[k], List.drop_eq_getElem_cons h, ?_⟩
  unfold B
  rw [List.getElem?_eq_getElem h]
  rfl
end Tx
namespace Tp

def B (bs : List UInt8) (k : Nat) : Int := ((bs[k]?.getD 0).toNat : Int)
theorem B_bd (bs : List UInt8) (k : Nat) : 0 ≤ B bs k ∧ B bs k ≤ 255 := by
  unfold B
  have := (bs[k]?.getD 0).toNat_lt
  omega

def ar (c : Int) : Int :=
  if c == 105 || c == 98 || c == 116 || c == 63 then 0 else if c == 108 || c == 120 then 1 else if c == 62 || c == 44 then 2 else -1
theorem ar_bd (c : Int) : -1 ≤ ar c ∧ ar c ≤ 2 := by unfold ar; repeat' split <;> omega

def beh : List UInt8 → Nat → Nat × Bool
  | _, 0 => (0, true)
  | [], _ + 1 => (0, false)
  | c :: r, m + 1 => if ar c.toNat < 0 then (0, false) else ((beh r (m + (ar c.toNat).toNat)).1 + 1, (beh r (m + (ar c.toNat).toNat)).2)

theorem beh_zero (bs : List UInt8) : beh bs 0 = (0, true) := by cases bs <;> rfl

inductive Ty
  | ti | tb | tt | tq
  | tl (a : Ty) | tx (a : Ty)
  | tf (a b : Ty) | tp (a b : Ty)
  deriving DecidableEq

def enc : Ty → List UInt8
  | .ti => [105] | .tb => [98] | .tt => [116] | .tq => [63]
  | .tl a => 108 :: enc a | .tx a => 120 :: enc a
  | .tf a b => 62 :: (enc a ++ enc b) | .tp a b => 44 :: (enc a ++ enc b)
theorem enc_pos (t : Ty) : 0 < (enc t).length := by cases t <;> simp [enc]

theorem beh_cons (c : UInt8) (r : List UInt8) (m : Nat) (h : 0 ≤ ar c.toNat) : beh (c :: r) (m + 1) = ((beh r (m + (ar c.toNat).toNat)).1 + 1, (beh r (m + (ar c.toNat).toNat)).2) := by
  rw [beh, if_neg (by omega)]
theorem beh_enc : ∀ (t : Ty) (r : List UInt8) (m : Nat), beh (enc t ++ r) (m + 1) = ((enc t).length + (beh r m).1, (beh r m).2)
  | .ti, r, m => by rw [show enc .ti ++ r = 105 :: r from rfl, beh_cons _ _ _ (by decide), show m + (ar (105 : UInt8).toNat).toNat = m from rfl]; simp [enc]; omega
  | .tb, r, m => by rw [show enc .tb ++ r = 98 :: r from rfl, beh_cons _ _ _ (by decide), show m + (ar (98 : UInt8).toNat).toNat = m from rfl]; simp [enc]; omega
  | .tt, r, m => by rw [show enc .tt ++ r = 116 :: r from rfl, beh_cons _ _ _ (by decide), show m + (ar (116 : UInt8).toNat).toNat = m from rfl]; simp [enc]; omega
  | .tq, r, m => by rw [show enc .tq ++ r = 63 :: r from rfl, beh_cons _ _ _ (by decide), show m + (ar (63 : UInt8).toNat).toNat = m from rfl]; simp [enc]; omega
  | .tl a, r, m => by
    rw [show enc (.tl a) ++ r = 108 :: (enc a ++ r) from rfl, beh_cons _ _ _ (by decide), show m + (ar (108 : UInt8).toNat).toNat = m + 1 from rfl, beh_enc a r m]
    simp [enc]; omega
  | .tx a, r, m => by
    rw [show enc (.tx a) ++ r = 120 :: (enc a ++ r) from rfl, beh_cons _ _ _ (by decide), show m + (ar (120 : UInt8).toNat).toNat = m + 1 from rfl, beh_enc a r m]
    simp [enc]; omega
  | .tf a b, r, m => by
    rw [show enc (.tf a b) ++ r = 62 :: (enc a ++ (enc b ++ r)) from by simp [enc], beh_cons _ _ _ (by decide), show m + (ar (62 : UInt8).toNat).toNat = (m + 1) + 1 from rfl, beh_enc a _ (m + 1), beh_enc b r m]
    simp [enc]; omega
  | .tp a b, r, m => by
    rw [show enc (.tp a b) ++ r = 44 :: (enc a ++ (enc b ++ r)) from by simp [enc], beh_cons _ _ _ (by decide), show m + (ar (44 : UInt8).toNat).toNat = (m + 1) + 1 from rfl, beh_enc a _ (m + 1), beh_enc b r m]
    simp [enc]; omega

theorem ar_cases (c : UInt8) : (ar c.toNat = 0 ∧ (c = 105 ∨ c = 98 ∨ c = 116 ∨ c = 63)) ∨ (ar c.toNat = 1 ∧ (c = 108 ∨ c = 120)) ∨ (ar c.toNat = 2 ∧ (c = 62 ∨ c = 44)) ∨ ar c.toNat = -1 := by
  have key : ∀ n : Nat, ((c.toNat : Int) == n) = true → c = UInt8.ofNat n := by
    intro n h
    have h1 : (c.toNat : Int) = n := by simpa using h
    have h' : c.toNat = n := by omega
    rw [← h']; simp
  unfold ar
  split
  · rename_i h
    left; refine ⟨rfl, ?_⟩
    simp only [Bool.or_eq_true] at h
    rcases h with ((h | h) | h) | h
    · exact .inl (key 105 h)
    · exact .inr (.inl (key 98 h))
    · exact .inr (.inr (.inl (key 116 h)))
    · exact .inr (.inr (.inr (key 63 h)))
  · split
    · rename_i h
      right; left; refine ⟨rfl, ?_⟩
      simp only [Bool.or_eq_true] at h
      rcases h with h | h
      · exact .inl (key 108 h)
      · exact .inr (key 120 h)
    · split
      · rename_i h
        right; right; left; refine ⟨rfl, ?_⟩
        simp only [Bool.or_eq_true] at h
        rcases h with h | h
        · exact .inl (key 62 h)
        · exact .inr (key 44 h)
      · right; right; right; rfl

def encs (ts : List Ty) : List UInt8 := (ts.map enc).flatten
theorem encs_cons (t : Ty) (ts : List Ty) : encs (t :: ts) = enc t ++ encs ts := rfl

theorem beh_dec : ∀ (bs : List UInt8) (m e : Nat), beh bs m = (e, true) → ∃ ts : List Ty, ts.length = m ∧ bs.take e = encs ts
  | bs, 0, e => fun h => by
    rw [beh_zero] at h
    cases h
    exact ⟨[], rfl, rfl⟩
  | [], m + 1, e => fun h => by simp [beh] at h
  | c :: r, m + 1, e => fun h => by
    rcases ar_cases c with ⟨h0, hc⟩ | ⟨h0, hc⟩ | ⟨h0, hc⟩ | h0
    · rw [beh_cons _ _ _ (by omega), h0] at h
      obtain ⟨e', he, hb⟩ : ∃ e', e = e' + 1 ∧ beh r m = (e', true) := ⟨_, (Prod.mk.inj h).1.symm, Prod.ext rfl (Prod.mk.inj h).2⟩
      obtain ⟨ts, hl, ht⟩ := beh_dec r m e' hb
      subst he
      rcases hc with rfl | rfl | rfl | rfl
      · exact ⟨.ti :: ts, by simp [hl], by rw [List.take_succ_cons, ht]; rfl⟩
      · exact ⟨.tb :: ts, by simp [hl], by rw [List.take_succ_cons, ht]; rfl⟩
      · exact ⟨.tt :: ts, by simp [hl], by rw [List.take_succ_cons, ht]; rfl⟩
      · exact ⟨.tq :: ts, by simp [hl], by rw [List.take_succ_cons, ht]; rfl⟩
    · rw [beh_cons _ _ _ (by omega), h0] at h
      obtain ⟨e', he, hb⟩ : ∃ e', e = e' + 1 ∧ beh r (m + 1) = (e', true) := ⟨_, (Prod.mk.inj h).1.symm, Prod.ext rfl (Prod.mk.inj h).2⟩
      obtain ⟨ts, hl, ht⟩ := beh_dec r (m + 1) e' hb
      subst he
      match ts, hl with
      | a :: ts, hl =>
        rcases hc with rfl | rfl
        · exact ⟨.tl a :: ts, by simpa using hl, by rw [List.take_succ_cons, ht]; rfl⟩
        · exact ⟨.tx a :: ts, by simpa using hl, by rw [List.take_succ_cons, ht]; rfl⟩
    · rw [beh_cons _ _ _ (by omega), h0] at h
      obtain ⟨e', he, hb⟩ : ∃ e', e = e' + 1 ∧ beh r (m + 2) = (e', true) := ⟨_, (Prod.mk.inj h).1.symm, Prod.ext rfl (Prod.mk.inj h).2⟩
      obtain ⟨ts, hl, ht⟩ := beh_dec r (m + 2) e' hb
      subst he
      match ts, hl with
      | a :: b :: ts, hl =>
        rcases hc with rfl | rfl
        · exact ⟨.tf a b :: ts, by simpa using hl, by rw [List.take_succ_cons, ht]; simp [encs, enc]⟩
        · exact ⟨.tp a b :: ts, by simpa using hl, by rw [List.take_succ_cons, ht]; simp [encs, enc]⟩
    · rw [beh, if_pos (by omega)] at h
      simp at h

def chk (bs : List UInt8) : Nat × Nat :=
  if 64 < bs.length then (21, 64) else if (beh bs 1).2 && (beh bs 1).1 == bs.length then (0, 0) else (20, (beh bs 1).1)
theorem chk_long {bs : List UInt8} (h : 64 < bs.length) : chk bs = (21, 64) := by unfold chk; rw [if_pos h]
theorem chk_bad {bs : List UInt8} (h : ¬ 64 < bs.length) (h2 : (beh bs 1).2 = false ∨ (beh bs 1).1 ≠ bs.length) : chk bs = (20, (beh bs 1).1) := by
  unfold chk
  rw [if_neg h, if_neg]
  rcases h2 with h2 | h2 <;> simp [h2]
theorem chk_good {bs : List UInt8} (h : ¬ 64 < bs.length) (h2 : beh bs 1 = (bs.length, true)) : chk bs = (0, 0) := by
  unfold chk
  rw [if_neg h, h2]
  simp
theorem chk_enc (t : Ty) (h : (enc t).length ≤ 64) : chk (enc t) = (0, 0) := by
  refine chk_good (by omega) ?_
  have := beh_enc t [] 0
  rw [List.append_nil] at this
  rw [this, beh_zero]
  rfl
theorem chk_dec {bs : List UInt8} (h : (chk bs).1 = 0) : ∃ t, bs = enc t ∧ (enc t).length ≤ 64 := by
  unfold chk at h
  split at h
  · simp at h
  · split at h
    · rename_i h1 h2
      simp at h2
      obtain ⟨ts, hl, ht⟩ := beh_dec bs 1 bs.length (Prod.ext h2.2 h2.1)
      rw [List.take_length] at ht
      match ts, hl with
      | [t], _ =>
        have e : bs = enc t := by rw [ht]; simp [encs]
        exact ⟨t, e, by rw [← e]; omega⟩
    · simp at h
theorem chk_snd {bs : List UInt8} (h : (chk bs).1 = 0) : chk bs = (0, 0) := by
  obtain ⟨t, rfl, hl⟩ := chk_dec h
  exact chk_enc t hl

theorem drop_B {l : List UInt8} {k : Nat} (h : k < l.length) : ∃ c : UInt8, l.drop k = c :: l.drop (k + 1) ∧ (c.toNat : Int) = B l k := by
  refine ⟨l[k], List.drop_eq_getElem_cons h, ?_⟩
  unfold B
  rw [List.getElem?_eq_getElem h]
  rfl
def Sofar (l : List UInt8) (k m : Nat) : Prop := beh l 1 = (k + (beh (l.drop k) m).1, (beh (l.drop k) m).2)
theorem Sofar.start (l : List UInt8) : Sofar l 0 1 := by unfold Sofar; simp
theorem Sofar.step {l : List UInt8} {k m : Nat} (h : Sofar l k (m + 1)) (hk : k < l.length) (ha : 0 ≤ ar (B l k)) : Sofar l (k + 1) (m + (ar (B l k)).toNat) := by
  unfold Sofar at *
  obtain ⟨c, hd, hc⟩ := drop_B hk
  rw [h, hd, beh_cons _ _ _ (by rw [hc]; exact ha), hc]
  simp; omega
theorem Sofar.zero {l : List UInt8} {k : Nat} (h : Sofar l k 0) : beh l 1 = (k, true) := by unfold Sofar at h; rw [h, beh_zero]; rfl
theorem Sofar.bad {l : List UInt8} {k m : Nat} (h : Sofar l k (m + 1)) (hk : k < l.length) (ha : ar (B l k) < 0) : beh l 1 = (k, false) := by
  unfold Sofar at h
  obtain ⟨c, hd, hc⟩ := drop_B hk
  rw [h, hd, beh, if_pos (by rw [hc]; exact ha)]
  rfl
theorem Sofar.early {l : List UInt8} {m : Nat} (h : Sofar l l.length (m + 1)) : beh l 1 = (l.length, false) := by
  unfold Sofar at h
  rw [h, List.drop_length]
  rfl
end Tp
namespace Tr

def popz : List Nat → List Nat
  | [] => []
  | 0 :: r => popz r
  | (m + 1) :: r => (m + 1) :: r
theorem popz_zero (r : List Nat) : popz (0 :: r) = popz r := rfl
theorem popz_succ (m : Nat) (r : List Nat) : popz ((m + 1) :: r) = (m + 1) :: r := rfl
theorem popz_form : ∀ st : List Nat, popz st = [] ∨ ∃ m r, popz st = (m + 1) :: r
  | [] => .inl rfl
  | 0 :: r => popz_form r
  | (m + 1) :: r => .inr ⟨m, r, rfl⟩
theorem popz_len : ∀ st : List Nat, (popz st).length ≤ st.length
  | [] => Nat.le_refl _
  | 0 :: r => Nat.le_succ_of_le (popz_len r)
  | (_ + 1) :: _ => Nat.le_refl _
theorem popz_sum : ∀ st : List Nat, (popz st).sum = st.sum
  | [] => rfl
  | 0 :: r => by rw [popz_zero, popz_sum r]; simp
  | (_ + 1) :: _ => rfl
theorem popz_nil {st : List Nat} : popz st = [] ↔ st.sum = 0 := by
  rw [← popz_sum]
  rcases popz_form st with h | ⟨m, r, h⟩ <;> rw [h] <;> simp <;> omega
def dec : List Nat → List Nat
  | [] => []
  | m :: r => (m - 1) :: r
theorem dec_len (st : List Nat) : (dec st).length = st.length := by cases st <;> rfl
def nxt (st : List Nat) (k : Int) : List Nat := k.toNat :: dec (popz st)
theorem nxt_sum {st : List Nat} (h : popz st ≠ []) (k : Int) : (nxt st k).sum + 1 = st.sum + k.toNat := by
  rcases popz_form st with h' | ⟨m, r, h'⟩
  · exact absurd h' h
  · rw [← popz_sum st, nxt, h']; simp [dec]; omega

def go : List Int → List Nat → Nat → Bool × Nat
  | [], st, i => (decide (popz st = []), i)
  | k :: ks, st, i => if popz st = [] then (true, i) else if k < 0 then (false, i) else go ks (nxt st k) (i + 1)
theorem go_done {ks : List Int} {st : List Nat} (h : popz st = []) (i : Nat) : go ks st i = (true, i) := by
  cases ks <;> simp [go, h]
theorem go_end {st : List Nat} (h : popz st ≠ []) (i : Nat) : go [] st i = (false, i) := by simp [go, h]
theorem go_neg {k : Int} {ks : List Int} {st : List Nat} (h : popz st ≠ []) (hk : k < 0) (i : Nat) : go (k :: ks) st i = (false, i) := by simp [go, h, hk]
theorem go_next {k : Int} {ks : List Int} {st : List Nat} (h : popz st ≠ []) (hk : 0 ≤ k) (i : Nat) : go (k :: ks) st i = go ks (nxt st k) (i + 1) := by
  rw [go, if_neg h, if_neg (by omega)]

def gs : List Int → Nat → Nat → Bool × Nat
  | _, 0, i => (true, i)
  | [], _ + 1, i => (false, i)
  | k :: ks, m + 1, i => if k < 0 then (false, i) else gs ks (m + k.toNat) (i + 1)
theorem gs_zero (ks : List Int) (i : Nat) : gs ks 0 i = (true, i) := by cases ks <;> rfl
theorem go_gs : ∀ (ks : List Int) (st : List Nat) (i : Nat), go ks st i = gs ks st.sum i
  | [], st, i => by
    by_cases h : popz st = []
    · rw [go_done h, popz_nil.1 h, gs_zero]
    · rw [go_end h]
      obtain ⟨m, hm⟩ : ∃ m, st.sum = m + 1 := ⟨st.sum - 1, by have := mt popz_nil.2 h; omega⟩
      rw [hm, gs]
  | k :: ks, st, i => by
    by_cases h : popz st = []
    · rw [go_done h, popz_nil.1 h, gs_zero]
    · obtain ⟨m, hm⟩ : ∃ m, st.sum = m + 1 := ⟨st.sum - 1, by have := mt popz_nil.2 h; omega⟩
      rw [hm, gs]
      by_cases hk : k < 0
      · rw [go_neg h hk, if_pos hk]
      · rw [go_next h (by omega), if_neg hk, go_gs ks, show (nxt st k).sum = m + k.toNat by have := nxt_sum h k; omega]
end Tr
namespace Tr
structure Nd where
  kind : Int
  kids : Int
  n : Int
  s : ByteArray
  t : ByteArray
  u : ByteArray
  ln : Int
  co : Int
deriving DecidableEq

def dps : List Int → List Nat → List Nat
  | [], _ => []
  | k :: ks, st => if popz st = [] then [] else (popz st).length :: dps ks (nxt st k)
theorem dps_next {k : Int} {ks : List Int} {st : List Nat} (h : popz st ≠ []) : dps (k :: ks) st = (popz st).length :: dps ks (nxt st k) := by simp [dps, h]

def fin (dp : Nat) : Nat × Nat := if 0 < dp then (16, dp) else (0, 0)
def ck (may : Nd → Bool) : List Nd → List Nat → Nat → Nat → Nat × Nat
  | [], st, i, dp => if popz st = [] then fin dp else (18, i)
  | x :: xs, st, i, dp => if popz st = [] then (18, i) else if may x = false then (18, i) else ck may xs (nxt st x.kids) (i + 1) (if 64 < (popz st).length ∧ dp = 0 then i else dp)
def check (may : Nd → Bool) (l : List Nd) : Nat × Nat := if l.length = 0 ∨ 4096 < l.length then (17, 0) else ck may l [1] 0 0

def bad (may : Nd → Bool) : List Nd → List Nat → Nat → Option Nat
  | [], _, _ => none
  | _ :: _, [], i => some i
  | x :: xs, _ :: ds, i => if may x = false then some i else bad may xs ds (i + 1)
def deep : List Nat → Nat → Option Nat
  | [], _ => none
  | d :: ds, i => if 64 < d then some i else deep ds (i + 1)
def fin2 (dp : Nat) : Option Nat → Nat × Nat
  | some j => if 0 < dp then (16, dp) else (16, j)
  | none => fin dp
theorem ck_ref (may : Nd → Bool) (hm : ∀ x, may x = true → 0 ≤ x.kids) : ∀ (l : List Nd) (st : List Nat) (i dp : Nat), st.length ≤ i + 1 →
    ck may l st i dp = match bad may l (dps (l.map (·.kids)) st) i with
      | some j => (18, j)
      | none => if go (l.map (·.kids)) st i = (true, i + l.length) then fin2 dp (deep (dps (l.map (·.kids)) st) i) else (18, i + l.length)
  | [], st, i, dp, hi => by
    by_cases h : popz st = []
    · simp [ck, h, bad, dps, go, deep, fin2]
    · simp [ck, h, bad, go]
  | x :: xs, st, i, dp, hi => by
    by_cases h : popz st = []
    · simp [ck, h, dps, bad]
    · have hpl := popz_len st
      rw [List.map_cons, dps_next h, ck, if_neg h, bad]
      by_cases hx : may x = false
      · rw [if_pos hx, if_pos hx]
      · have hk := hm x (by simpa using hx)
        rw [if_neg hx, if_neg hx, ck_ref may hm xs _ _ _ (by rw [nxt, List.length_cons, dec_len]; omega), go_next h hk]
        cases bad may xs (dps (xs.map (·.kids)) (nxt st x.kids)) (i + 1) with
        | some j => rfl
        | none =>
          simp only
          rw [show i + 1 + xs.length = i + (x :: xs).length by simp; omega]
          split
          · rw [deep]
            by_cases hd : 64 < (popz st).length
            · have hi0 : 0 < i := by omega
              rw [if_pos hd]
              by_cases h0 : dp = 0
              · subst h0
                rw [if_pos ⟨hd, rfl⟩]
                cases deep (dps (xs.map (·.kids)) (nxt st x.kids)) (i + 1) <;> simp [fin2, fin, hi0]
              · have h1 : 0 < dp := by omega
                rw [if_neg (fun h => h0 h.2)]
                cases deep (dps (xs.map (·.kids)) (nxt st x.kids)) (i + 1) <;> simp [fin2, fin, h1]
            · rw [if_neg hd, if_neg (fun h => hd h.1)]
          · rfl
theorem bad_end {may : Nd → Bool} : ∀ {l : List Nd} {ds : List Nat} {i : Nat}, bad may l ds i = none → (∀ x ∈ l, may x = true) ∧ l.length ≤ ds.length
  | [], _, _, _ => ⟨by simp, by simp⟩
  | x :: xs, [], i, h => by simp [bad] at h
  | x :: xs, d :: ds, i, h => by
    rw [bad] at h
    split at h
    · simp at h
    · rename_i hx
      obtain ⟨h1, h2⟩ := bad_end h
      exact ⟨by intro y hy; rcases List.mem_cons.1 hy with rfl | hy; · simpa using hx
                exact h1 y hy, by simpa using h2⟩
end Tr
namespace Tr
inductive T where
  | nd (x : Nd) (ks : List T)
mutual
def flat : T → List Nd
  | .nd x ks => x :: flats ks
def flats : List T → List Nd
  | [] => []
  | t :: r => flat t ++ flats r
end
mutual
def high : T → Nat
  | .nd _ ks => highs ks + 1
def highs : List T → Nat
  | [] => 0
  | t :: r => max (high t) (highs r)
end
mutual
def wf : T → Prop
  | .nd x ks => x.kids = ks.length ∧ wfs ks
def wfs : List T → Prop
  | [] => True
  | t :: r => wf t ∧ wfs r
end
mutual
def dpT (d : Nat) : T → List Nat
  | .nd _ ks => d :: dpL (d + 1) ks
def dpL (d : Nat) : List T → List Nat
  | [] => []
  | t :: r => dpT d t ++ dpL d r
end
theorem flats_append : ∀ (a b : List T), flats (a ++ b) = flats a ++ flats b
  | [], b => by simp [flats]
  | t :: a, b => by simp [flats, flats_append a b]
theorem wfs_append : ∀ (a b : List T), wfs (a ++ b) ↔ wfs a ∧ wfs b
  | [], b => by simp [wfs]
  | t :: a, b => by simp [wfs, wfs_append a b, and_assoc]
theorem flat_pos (t : T) : 0 < (flat t).length := by cases t; simp [flat]
def kd (l : List Nd) : List Int := l.map (·.kids)
theorem trees : ∀ (n : Nat) (l : List Nd) (m i j : Nat), l.length ≤ n → gs (kd l) m i = (true, j) → ∃ ts rest, ts.length = m ∧ wfs ts ∧ l = flats ts ++ rest ∧ j = i + (flats ts).length
  | n, l, 0, i, j, _, h => ⟨[], l, rfl, trivial, rfl, by rw [gs_zero] at h; simp at h; simp [flats, h]⟩
  | n, [], m + 1, i, j, _, h => by simp [kd, gs] at h
  | 0, x :: xs, m + 1, i, j, hn, h => by simp at hn
  | n + 1, x :: xs, m + 1, i, j, hn, h => by
    simp only [kd, List.map_cons, gs] at h
    split at h
    · simp at h
    · rename_i hk
      obtain ⟨ts, rest, h1, h2, h3, h4⟩ := trees n xs (m + x.kids.toNat) (i + 1) j (by simp at hn; omega) h
      refine ⟨.nd x (ts.take x.kids.toNat) :: ts.drop x.kids.toNat, rest, by simp; omega, ?_, ?_, ?_⟩
      · have := (wfs_append (ts.take x.kids.toNat) (ts.drop x.kids.toNat)).1 (by rw [List.take_append_drop]; exact h2)
        rw [wfs, wf]
        exact ⟨⟨by simp; omega, this.1⟩, this.2⟩
      · rw [flats, flat, h3]
        simp only [List.cons_append]
        rw [← flats_append, List.take_append_drop]
      · rw [flats, flat, List.cons_append, ← flats_append, List.take_append_drop, h4]
        simp; omega
theorem dps_pop (ks : List Int) (r : List Nat) : dps ks (0 :: r) = dps ks r := by cases ks <;> rfl
mutual
theorem dps_flat : ∀ (t : T) (rest : List Nd) (m : Nat) (st : List Nat), wf t → dps (kd (flat t ++ rest)) ((m + 1) :: st) = dpT (st.length + 1) t ++ dps (kd rest) (m :: st)
  | .nd x ks, rest, m, st, h => by
    rw [wf] at h
    simp only [flat, kd, List.cons_append, List.map_cons]
    rw [dps_next (by simp [popz]), popz_succ, dpT, nxt, popz_succ, dec, h.1]
    have := dps_flats ks rest 0 (m :: st) h.2
    simp only [kd, Nat.zero_add] at this
    simp only [Int.toNat_natCast, Nat.add_sub_cancel]
    rw [this, dps_pop]
    simp
theorem dps_flats : ∀ (ts : List T) (rest : List Nd) (m : Nat) (st : List Nat), wfs ts → dps (kd (flats ts ++ rest)) ((m + ts.length) :: st) = dpL (st.length + 1) ts ++ dps (kd rest) (m :: st)
  | [], rest, m, st, _ => by simp [flats, dpL]
  | t :: r, rest, m, st, h => by
    rw [wfs] at h
    rw [flats, List.append_assoc, show m + (t :: r).length = (m + r.length) + 1 by simp; omega, dps_flat t _ _ _ h.1, dps_flats r _ _ _ h.2, dpL]
    simp
end
def mx : List Nat → Nat → Nat
  | [], a => a
  | d :: ds, a => mx ds (max a d)
theorem mx_append : ∀ (a b : List Nat) (n : Nat), mx (a ++ b) n = mx b (mx a n)
  | [], b, n => rfl
  | d :: a, b, n => by simp [mx, mx_append a b]
mutual
theorem mx_dpT : ∀ (t : T) (d a : Nat), mx (dpT d t) a = max a (d + high t - 1)
  | .nd x ks, d, a => by rw [dpT, mx, mx_dpL, high]; split <;> omega
theorem mx_dpL : ∀ (ts : List T) (d a : Nat), mx (dpL d ts) a = max a (if highs ts = 0 then 0 else d + highs ts - 1)
  | [], d, a => by simp [dpL, mx, highs]
  | t :: r, d, a => by
    have hp : 0 < high t := by cases t; simp [high]
    rw [dpL, mx_append, mx_dpT, mx_dpL, highs]
    split <;> split <;> omega
end
theorem whole {l : List Nd} (h : gs (kd l) 1 0 = (true, l.length)) : ∃ t, wf t ∧ l = flat t := by
  obtain ⟨ts, rest, h1, h2, h3, h4⟩ := trees _ l 1 0 _ (Nat.le_refl _) h
  obtain ⟨t, rfl⟩ : ∃ t, ts = [t] := List.length_eq_one_iff.1 h1
  simp [flats] at h3 h4
  have : rest = [] := by
    have := congrArg List.length h3; simp at this; exact List.length_eq_zero_iff.1 (by omega)
  subst this
  exact ⟨t, h2.1, by simpa using h3⟩
end Tr
namespace Tr
def cut32 : List UInt8 → List UInt8 × List UInt8 × Bool
  | [] => ([], [], false)
  | c :: r => if c = 32 then ([], r, true) else (c :: (cut32 r).1, (cut32 r).2.1, (cut32 r).2.2)
def nm (x : Nd) : List UInt8 := x.s.data.toList
def binds (x : Nd) (j : Nat) : List (List UInt8) :=
  if x.kind = 5 then [nm x] else if x.kind = 6 then [(cut32 (nm x)).1, (cut32 (nm x)).2.1] else if x.kind = 8 ∧ j = 1 then [nm x] else []
def ob1 (b : List (List UInt8)) (x : Nd) : Option (List UInt8) := if x.kind = 4 ∧ nm x ∉ b then some (nm x) else none
mutual
def obT (b : List (List UInt8)) : T → List (Option (List UInt8))
  | .nd x ks => ob1 b x :: obL b x 0 ks
def obL (b : List (List UInt8)) (x : Nd) (j : Nat) : List T → List (Option (List UInt8))
  | [] => []
  | t :: r => obT (binds x j ++ b) t ++ obL b x (j + 1) r
end
def add1 (acc : List (List UInt8)) : Option (List UInt8) → List (List UInt8)
  | none => acc
  | some n => if n ∈ acc then acc else acc ++ [n]
def adds (acc : List (List UInt8)) (l : List (Option (List UInt8))) : List (List UInt8) := l.foldl add1 acc
def free (t : T) : List (List UInt8) := adds [] (obT [] t)
end Tr
namespace Tr
def bh (l : List Nd) (i : Nat) : Nat := if i < l.length ∧ (gs (kd (l.drop i)) 1 i).1 = true then (gs (kd (l.drop i)) 1 i).2 else 0
def kidAt (l : List Nd) (i : Nat) : Nat → Nat
  | 0 => i + 1
  | k + 1 => bh l (kidAt l i k)
def inn (l : List Nd) (p at' : Nat) (n : List UInt8) : Prop :=
  ∃ i, p ≤ i ∧ i < at' ∧ at' < bh l i ∧ ∃ x, l[i]? = some x ∧ ∃ k, k < x.kids.toNat ∧ kidAt l i k ≤ at' ∧ at' < bh l (kidAt l i k) ∧ n ∈ binds x k
def among (x : Nd) (j : Nat) (ts : List T) (q : Nat) (n : List UInt8) : Prop :=
  ∃ k, k < ts.length ∧ (flats (ts.take k)).length ≤ q ∧ q < (flats (ts.take (k + 1))).length ∧ n ∈ binds x (j + k)
end Tr
end Go.Proofs.YthdlfeejeboboaaGreatDoor
namespace Go.Proofs.YthdlfeejeboboaaGreatDoor
open Go.RowKit
set_option maxRecDepth 100000

theorem ret_bool {a b : Bool} (h : a = b) : Ending.returned (.bool a) = .returned (.bool b) := by rw [h]

set_option maxHeartbeats 400000 in
theorem isLetter_any (c : Int) (w : World) :
    Calls Tryz.prog 59 #[.int .u8 c] w fun e w' => e = .returned (.bool (Tx.letterB c)) ∧ w' = w := by
  go_enter Tryz.func59, Tryz.ntmps59
  go_wp2
  all_goals
    go_ret
    refine ⟨ret_bool ?_, rfl⟩
    unfold Tx.letterB
    rw [Bool.eq_iff_iff]; simp; omega

set_option maxHeartbeats 400000 in
theorem isDigit_any (c : Int) (w : World) :
    Calls Tryz.prog 116 #[.int .u8 c] w fun e w' => e = .returned (.bool (Tx.digitB c)) ∧ w' = w := by
  go_enter Tryz.func116, Tryz.ntmps116
  go_wp2
  all_goals
    go_ret
    refine ⟨ret_bool ?_, rfl⟩
    unfold Tx.digitB
    rw [Bool.eq_iff_iff]; simp; omega

set_option maxHeartbeats 400000 in
theorem isSeen_any (c : Int) (w : World) :
    Calls Tryz.prog 170 #[.int .u8 c] w fun e w' => e = .returned (.bool (Tx.seenB c)) ∧ w' = w := by
  go_enter Tryz.func170, Tryz.ntmps170
  go_wp2
  all_goals
    go_ret
    refine ⟨ret_bool ?_, rfl⟩
    unfold Tx.seenB
    rw [Bool.eq_iff_iff]; simp; omega

set_option maxHeartbeats 400000 in
theorem isInner_any (c : Int) (w : World) :
    Calls Tryz.prog 60 #[.int .u8 c] w fun e w' => e = .returned (.bool (Tx.innerB c)) ∧ w' = w := by
  go_enter Tryz.func60, Tryz.ntmps60
  go_wp2_with (first | (go_at_call 59; refine (isLetter_any _ _).mono ?_; rintro e w' ⟨rfl, rfl⟩) | (go_at_call 116; refine (isDigit_any _ _).mono ?_; rintro e w' ⟨rfl, rfl⟩))
  all_goals
    go_ret
    refine ⟨ret_bool ?_, rfl⟩
    unfold Tx.innerB
    simp_all

theorem ret_int {a b : Int} (h : a = b) : Ending.returned (.int .i64 a) = .returned (.int .i64 b) := by rw [h]

set_option maxHeartbeats 400000 in
theorem partsOf_any (c : Int) (w : World) :
    Calls Tryz.prog 134 #[.int .u8 c] w fun e w' => e = .returned (.int .i64 (Tp.ar c)) ∧ w' = w := by
  go_enter Tryz.func134, Tryz.ntmps134
  go_wp2
  all_goals
    go_ret
    refine ⟨ret_int ?_, rfl⟩
    unfold Tp.ar
    simp_all
theorem grownBy_refl (w : World) (r : Option Nat) : w.grownBy w r := ⟨rfl, rfl, rfl, Nat.le_refl _, fun _ _ _ => rfl⟩
theorem grownBy_trans {a b c : World} {r : Option Nat} (h : a.grownBy b r) (k : b.grownBy c r) : a.grownBy c r :=
  ⟨k.os.trans h.os, k.tape.trans h.tape, k.output.trans h.output, Nat.le_trans h.size k.size, fun i hi hne => (k.block i (Nat.lt_of_lt_of_le hi h.size) hne).trans (h.block i hi hne)⟩
theorem grownBy_set {a b : World} {rb o : Nat} (h : a.grownBy b (some rb)) (u : Value) : a.grownBy (b.setCell ⟨rb, o, none⟩ u) (some rb) :=
  grownBy_trans h ⟨rfl, rfl, rfl, by simp [World.setCell], fun k hk hne => Below.heap_setCell _ _ _ _ (by intro e; exact hne (by rw [e]))⟩
theorem grownBy_alloc_pre {w w' : World} {o : Obj} {r : Option Nat} (h : (w.alloc o).grownBy w' r) : w.grownBy w' r :=
  ⟨h.os, h.tape, h.output, by have := h.size; simp at this; omega, fun k hk hne => (h.block k (by simp; omega) hne).trans (Below.heap_alloc _ _ _ hk)⟩
theorem grownBy_alloc {w w' : World} {r : Option Nat} (h : w.grownBy w' r) (o : Obj) : w.grownBy (w'.alloc o) r :=
  ⟨h.os, h.tape, h.output, by have := h.size; simp; omega, fun k hk hne => (Below.heap_alloc _ _ _ (by have := h.size; omega)).trans (h.block k hk hne)⟩

theorem block_cells {w : World} {g : Nat} {C : Array Value} {t : TypeId} (h : w.heap[g]? = some (.cells C t (0, 0))) : (∀ o, w.cell? ⟨g, o, none⟩ = C[o]?) ∧ ∀ o, w.frozen? ⟨g, o, none⟩ = false := by
  refine ⟨fun o => ?_, fun o => ?_⟩
  · simp [World.cell?, h]
  · simp [World.frozen?, h]
theorem cells_list_new (w : World) (xs : List Value) (t : TypeId) : ∀ j u, xs[j]? = some u → (w.alloc (.cells xs.toArray t)).cell? ((⟨w.heap.size, 0, none⟩ : Addr).add j) = some u := by
  intro j u hj
  have hb := (block_cells (heap_alloc_new w (.cells xs.toArray t))).1 j
  rw [List.getElem?_toArray, hj] at hb
  by_cases h0 : j = 0
  · subst h0; simpa [Addr.add] using hb
  · simpa [Addr.add, h0] using hb
theorem own_lit (w : World) (xs : List Value) (e : TypeId) (hm : xs.length ≤ maxLen) : (w.alloc (.cells xs.toArray e)).ownsRow w.heap.size e 1 (.slice (some ⟨w.heap.size, 0, none⟩) xs.length xs.length) xs.length xs :=
  ⟨by simp, .inr ⟨w.heap.size, xs.length, xs.toArray, rfl, Nat.le_refl _, heap_alloc_new _ _, Nat.le_refl _, hm, by simp, by simp⟩⟩
theorem own_nil (w : World) (base : Nat) (e : TypeId) (sz : Nat) : w.ownsRow base e sz (.slice none 0 0) 0 [] := ⟨by simp, .inl ⟨rfl, rfl⟩⟩
theorem own_len {W : World} {base e size n : Nat} {v : Value} {xs : List Value} (h : W.ownsRow base e size v n xs) : ∃ a c, v = .slice a n c := by
  obtain ⟨_, ⟨rfl, rfl⟩ | ⟨g, cap, cur, rfl, _⟩⟩ := h
  · exact ⟨none, 0, rfl⟩
  · exact ⟨some ⟨g, 0, none⟩, cap, rfl⟩
theorem own_cells {W : World} {base e size n : Nat} {v : Value} {xs : List Value} (h : W.ownsRow base e size v n xs) (hn : 0 < n) : ∃ g cap, v = .slice (some ⟨g, 0, none⟩) n cap ∧ n ≤ cap ∧ base ≤ g ∧ ∀ j, j < n * size → W.cell? ⟨g, j, none⟩ = xs[j]? := by
  obtain ⟨h1, ⟨rfl, h0⟩ | ⟨g, cap, cur, rfl, hg, hh, hc, _, hs, ht⟩⟩ := h
  · omega
  · refine ⟨g, cap, rfl, hc, hg, fun j hj => ?_⟩
    rw [← ht, List.getElem?_take, if_pos hj, Array.getElem?_toList]
    simp [World.cell?, hh]

def S (l : List UInt8) : ByteArray := ⟨l.toArray⟩
theorem S_list (l : List UInt8) : (S l).data.toList = l := rfl
theorem S_size (l : List UInt8) : (S l).size = l.length := by simp [S, ByteArray.size]
theorem S_of (s : ByteArray) : s = S s.data.toList := rfl
theorem S_cut (l : List UInt8) (a b : Nat) : (S l).extract a b = S ((l.drop a).take (b - a)) := by
  apply ByteArray.ext
  simp [S, ByteArray.data_extract]
def tcells (ls : List (List UInt8)) : List Value := ls.map (fun l => .string (S l))
theorem tcells_append (a b : List (List UInt8)) : tcells (a ++ b) = tcells a ++ tcells b := by simp [tcells]
theorem tcells_one (l : List (List UInt8)) : ∀ u ∈ tcells l, u.oneCell' = true := by
  intro u hu
  unfold tcells at hu
  obtain ⟨c, _, rfl⟩ := List.mem_map.1 hu
  rfl
theorem info9 : (Tryz.prog.info? 9).map (fun i => (i.zero, i.size, i.bytes)) = some (some (.string ⟨#[]⟩), 1, 16) := by kernel_rfl
theorem tyTexts : Tryz.prog.underlying 23 = some (.slice 9) := by kernel_rfl
theorem info5 : (Tryz.prog.info? 5).map (fun i => (i.zero, i.size, i.bytes)) = some (some (.int .u8 0), 1, 1) := by kernel_rfl
theorem tyBytes : Tryz.prog.underlying 129 = some (.slice 5) := by kernel_rfl
theorem info3 : (Tryz.prog.info? 3).map (fun i => (i.zero, i.size, i.bytes)) = some (some (.int .i64 0), 1, 8) := by kernel_rfl
theorem tyInts : Tryz.prog.underlying 113 = some (.slice 3) := by kernel_rfl
theorem str_len (s : ByteArray) : s.data.toList.length = s.size := by rw [Array.length_toList]; rfl
theorem str_B (s : ByteArray) (k : Nat) (h : k < s.size) : ((s[k]'h).toNat : Int) = Tx.B s.data.toList k := by
  unfold Tx.B
  have h' : k < s.data.toList.length := by simpa using h
  rw [List.getElem?_eq_getElem h']
  rfl
end Go.Proofs.YthdlfeejeboboaaGreatDoor
