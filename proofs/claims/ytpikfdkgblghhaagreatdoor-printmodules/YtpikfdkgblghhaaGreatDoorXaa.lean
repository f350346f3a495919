/- Plain functions on lists of bytes: what layer 2 of the document says a type is. Nothing of the program is named here. Plain functions: what layer 2 of the document says Make answers. Nothing of the program is named here. What the program's and the document's questions about one byte answer. What the program's Check, isType, endOf, Head, Static answer. Small facts on memory: blocks that grow, rows that a call owns. What the program's isType, Head, endOf, Parts answer. -/
import Derived.Below
import Derived.Test.YtpikfdkgblghhaaGreatDoorRows
import Derived.WalkKit
import Derived.WalkSpells
import Derived.WalkLawsBesides
import Derived.Deep.LoopGhost
import Derived.Deep.QuietTactic
import Derived.BigQuiet
namespace Go.Proofs.YtpikfdkgblghhaaGreatDoor.T3
namespace Tp

/-- The byte at a place, as a number; 0 behind the end. -/
def B (bs : List UInt8) (k : Nat) : Int := ((bs[k]?.getD 0).toNat : Int)
theorem B_bd (bs : List UInt8) (k : Nat) : 0 ≤ B bs k ∧ B bs k ≤ 255 := by
  unfold B
  have := (bs[k]?.getD 0).toNat_lt
  omega

/-- How many parts a head has; -1: it is none. -/
def ar (c : Int) : Int :=
  if c == 105 || c == 98 || c == 116 || c == 63 then 0 else if c == 108 || c == 120 then 1 else if c == 62 || c == 44 then 2 else -1
theorem ar_bd (c : Int) : -1 ≤ ar c ∧ ar c ≤ 2 := by unfold ar; repeat' split <;> omega

/-- m types still to come: how many bytes they take, and whether they are there. -/
def beh : List UInt8 → Nat → Nat × Bool
  | _, 0 => (0, true)
  | [], _ + 1 => (0, false)
  | c :: r, m + 1 => if ar c.toNat < 0 then (0, false) else ((beh r (m + (ar c.toNat).toNat)).1 + 1, (beh r (m + (ar c.toNat).toNat)).2)

theorem beh_zero (bs : List UInt8) : beh bs 0 = (0, true) := by cases bs <;> rfl
theorem beh_le : ∀ (bs : List UInt8) (m : Nat), (beh bs m).1 ≤ bs.length
  | bs, 0 => by rw [beh_zero]; exact Nat.zero_le _
  | [], m + 1 => by simp [beh]
  | c :: r, m + 1 => by
    unfold beh
    split
    · simp
    · have := beh_le r (m + (ar c.toNat).toNat)
      simpa using this

inductive Ty
  | ti | tb | tt | tq
  | tl (a : Ty) | tx (a : Ty)
  | tf (a b : Ty) | tp (a b : Ty)
  deriving DecidableEq

def enc : Ty → List UInt8
  | .ti => [105] | .tb => [98] | .tt => [116] | .tq => [63]
  | .tl a => 108 :: enc a | .tx a => 120 :: enc a
  | .tf a b => 62 :: (enc a ++ enc b) | .tp a b => 44 :: (enc a ++ enc b)
theorem enc_pos (t : Ty) : 0 < (enc t).length := by cases t <;> simp [enc]

theorem beh_cons (c : UInt8) (r : List UInt8) (m : Nat) (h : 0 ≤ ar c.toNat) : beh (c :: r) (m + 1) = ((beh r (m + (ar c.toNat).toNat)).1 + 1, (beh r (m + (ar c.toNat).toNat)).2) := by
  rw [beh, if_neg (by omega)]
theorem beh_enc : ∀ (t : Ty) (r : List UInt8) (m : Nat), beh (enc t ++ r) (m + 1) = ((enc t).length + (beh r m).1, (beh r m).2)
  | .ti, r, m => by rw [show enc .ti ++ r = 105 :: r from rfl, beh_cons _ _ _ (by decide), show m + (ar (105 : UInt8).toNat).toNat = m from rfl]; simp [enc]; omega
  | .tb, r, m => by rw [show enc .tb ++ r = 98 :: r from rfl, beh_cons _ _ _ (by decide), show m + (ar (98 : UInt8).toNat).toNat = m from rfl]; simp [enc]; omega
  | .tt, r, m => by rw [show enc .tt ++ r = 116 :: r from rfl, beh_cons _ _ _ (by decide), show m + (ar (116 : UInt8).toNat).toNat = m from rfl]; simp [enc]; omega
  | .tq, r, m => by rw [show enc .tq ++ r = 63 :: r from rfl, beh_cons _ _ _ (by decide), show m + (ar (63 : UInt8).toNat).toNat = m from rfl]; simp [enc]; omega
  | .tl a, r, m => by
    rw [show enc (.tl a) ++ r = 108 :: (enc a ++ r) from rfl, beh_cons _ _ _ (by decide), show m + (ar (108 : UInt8).toNat).toNat = m + 1 from rfl, beh_enc a r m]
    simp [enc]; omega
  | .tx a, r, m => by
    rw [show enc (.tx a) ++ r = 120 :: (enc a ++ r) from rfl, beh_cons _ _ _ (by decide), show m + (ar (120 : UInt8).toNat).toNat = m + 1 from rfl, beh_enc a r m]
    simp [enc]; omega
  | .tf a b, r, m => by
    rw [show enc (.tf a b) ++ r = 62 :: (enc a ++ (enc b ++ r)) from by simp [enc], beh_cons _ _ _ (by decide), show m + (ar (62 : UInt8).toNat).toNat = (m + 1) + 1 from rfl, beh_enc a _ (m + 1), beh_enc b r m]
    simp [enc]; omega
  | .tp a b, r, m => by
    rw [show enc (.tp a b) ++ r = 44 :: (enc a ++ (enc b ++ r)) from by simp [enc], beh_cons _ _ _ (by decide), show m + (ar (44 : UInt8).toNat).toNat = (m + 1) + 1 from rfl, beh_enc a _ (m + 1), beh_enc b r m]
    simp [enc]; omega

theorem ar_cases (c : UInt8) : (ar c.toNat = 0 ∧ (c = 105 ∨ c = 98 ∨ c = 116 ∨ c = 63)) ∨ (ar c.toNat = 1 ∧ (c = 108 ∨ c = 120)) ∨ (ar c.toNat = 2 ∧ (c = 62 ∨ c = 44)) ∨ ar c.toNat = -1 := by
  have key : ∀ n : Nat, ((c.toNat : Int) == n) = true → c = UInt8.ofNat n := by
    intro n h
    have h1 : (c.toNat : Int) = n := by simpa using h
    have h' : c.toNat = n := by omega
    rw [← h']; simp
  unfold ar
  split
  · rename_i h
    left; refine ⟨rfl, ?_⟩
    simp only [Bool.or_eq_true] at h
    rcases h with ((h | h) | h) | h
    · exact .inl (key 105 h)
    · exact .inr (.inl (key 98 h))
    · exact .inr (.inr (.inl (key 116 h)))
    · exact .inr (.inr (.inr (key 63 h)))
  · split
    · rename_i h
      right; left; refine ⟨rfl, ?_⟩
      simp only [Bool.or_eq_true] at h
      rcases h with h | h
      · exact .inl (key 108 h)
      · exact .inr (key 120 h)
    · split
      · rename_i h
        right; right; left; refine ⟨rfl, ?_⟩
        simp only [Bool.or_eq_true] at h
        rcases h with h | h
        · exact .inl (key 62 h)
        · exact .inr (key 44 h)
      · right; right; right; rfl

def encs (ts : List Ty) : List UInt8 := (ts.map enc).flatten
theorem encs_cons (t : Ty) (ts : List Ty) : encs (t :: ts) = enc t ++ encs ts := rfl

theorem beh_dec : ∀ (bs : List UInt8) (m e : Nat), beh bs m = (e, true) → ∃ ts : List Ty, ts.length = m ∧ bs.take e = encs ts
  | bs, 0, e => fun h => by
    rw [beh_zero] at h
    cases h
    exact ⟨[], rfl, rfl⟩
  | [], m + 1, e => fun h => by simp [beh] at h
  | c :: r, m + 1, e => fun h => by
    rcases ar_cases c with ⟨h0, hc⟩ | ⟨h0, hc⟩ | ⟨h0, hc⟩ | h0
    · rw [beh_cons _ _ _ (by omega), h0] at h
      obtain ⟨e', he, hb⟩ : ∃ e', e = e' + 1 ∧ beh r m = (e', true) := ⟨_, (Prod.mk.inj h).1.symm, Prod.ext rfl (Prod.mk.inj h).2⟩
      obtain ⟨ts, hl, ht⟩ := beh_dec r m e' hb
      subst he
      rcases hc with rfl | rfl | rfl | rfl
      · exact ⟨.ti :: ts, by simp [hl], by rw [List.take_succ_cons, ht]; rfl⟩
      · exact ⟨.tb :: ts, by simp [hl], by rw [List.take_succ_cons, ht]; rfl⟩
      · exact ⟨.tt :: ts, by simp [hl], by rw [List.take_succ_cons, ht]; rfl⟩
      · exact ⟨.tq :: ts, by simp [hl], by rw [List.take_succ_cons, ht]; rfl⟩
    · rw [beh_cons _ _ _ (by omega), h0] at h
      obtain ⟨e', he, hb⟩ : ∃ e', e = e' + 1 ∧ beh r (m + 1) = (e', true) := ⟨_, (Prod.mk.inj h).1.symm, Prod.ext rfl (Prod.mk.inj h).2⟩
      obtain ⟨ts, hl, ht⟩ := beh_dec r (m + 1) e' hb
      subst he
      match ts, hl with
      | a :: ts, hl =>
        rcases hc with rfl | rfl
        · exact ⟨.tl a :: ts, by simpa using hl, by rw [List.take_succ_cons, ht]; rfl⟩
        · exact ⟨.tx a :: ts, by simpa using hl, by rw [List.take_succ_cons, ht]; rfl⟩
    · rw [beh_cons _ _ _ (by omega), h0] at h
      obtain ⟨e', he, hb⟩ : ∃ e', e = e' + 1 ∧ beh r (m + 2) = (e', true) := ⟨_, (Prod.mk.inj h).1.symm, Prod.ext rfl (Prod.mk.inj h).2⟩
      obtain ⟨ts, hl, ht⟩ := beh_dec r (m + 2) e' hb
      subst he
      match ts, hl with
      | a :: b :: ts, hl =>
        rcases hc with rfl | rfl
        · exact ⟨.tf a b :: ts, by simpa using hl, by rw [List.take_succ_cons, ht]; simp [encs, enc]⟩
        · exact ⟨.tp a b :: ts, by simpa using hl, by rw [List.take_succ_cons, ht]; simp [encs, enc]⟩
    · rw [beh, if_pos (by omega)] at h
      simp at h

/-- P2.1: what is wrong with a text, and where; (0, 0): it is a type. -/
def chk (bs : List UInt8) : Nat × Nat :=
  if 64 < bs.length then (21, 64) else if (beh bs 1).2 && (beh bs 1).1 == bs.length then (0, 0) else (20, (beh bs 1).1)
theorem chk_long {bs : List UInt8} (h : 64 < bs.length) : chk bs = (21, 64) := by unfold chk; rw [if_pos h]
theorem chk_bad {bs : List UInt8} (h : ¬ 64 < bs.length) (h2 : (beh bs 1).2 = false ∨ (beh bs 1).1 ≠ bs.length) : chk bs = (20, (beh bs 1).1) := by
  unfold chk
  rw [if_neg h, if_neg]
  rcases h2 with h2 | h2 <;> simp [h2]
theorem chk_good {bs : List UInt8} (h : ¬ 64 < bs.length) (h2 : beh bs 1 = (bs.length, true)) : chk bs = (0, 0) := by
  unfold chk
  rw [if_neg h, h2]
  simp
theorem chk_enc (t : Ty) (h : (enc t).length ≤ 64) : chk (enc t) = (0, 0) := by
  refine chk_good (by omega) ?_
  have := beh_enc t [] 0
  rw [List.append_nil] at this
  rw [this, beh_zero]
  rfl
theorem chk_dec {bs : List UInt8} (h : (chk bs).1 = 0) : ∃ t, bs = enc t ∧ (enc t).length ≤ 64 := by
  unfold chk at h
  split at h
  · simp at h
  · split at h
    · rename_i h1 h2
      simp at h2
      obtain ⟨ts, hl, ht⟩ := beh_dec bs 1 bs.length (Prod.ext h2.2 h2.1)
      rw [List.take_length] at ht
      match ts, hl with
      | [t], _ =>
        have e : bs = enc t := by rw [ht]; simp [encs]
        exact ⟨t, e, by rw [← e]; omega⟩
    · simp at h
theorem chk_snd {bs : List UInt8} (h : (chk bs).1 = 0) : chk bs = (0, 0) := by
  obtain ⟨t, rfl, hl⟩ := chk_dec h
  exact chk_enc t hl

/-- Types stand apart: no beginning of one is one. -/
theorem enc_pre : ∀ (a b : Ty) (r s : List UInt8), enc a ++ r = enc b ++ s → a = b ∧ r = s := by
  intro a
  induction a with
  | ti => intro b r s h; cases b <;> simp [enc] at h ⊢; exact h
  | tb => intro b r s h; cases b <;> simp [enc] at h ⊢; exact h
  | tt => intro b r s h; cases b <;> simp [enc] at h ⊢; exact h
  | tq => intro b r s h; cases b <;> simp [enc] at h ⊢; exact h
  | tl a ih => intro b r s h; cases b <;> simp [enc] at h ⊢; exact ih _ _ _ h
  | tx a ih => intro b r s h; cases b <;> simp [enc] at h ⊢; exact ih _ _ _ h
  | tf a c iha ihc =>
    intro b r s h
    cases b <;> simp [enc] at h ⊢
    obtain ⟨rfl, h2⟩ := iha _ _ _ h
    exact ⟨⟨rfl, (ihc _ _ _ h2).1⟩, (ihc _ _ _ h2).2⟩
  | tp a c iha ihc =>
    intro b r s h
    cases b <;> simp [enc] at h ⊢
    obtain ⟨rfl, h2⟩ := iha _ _ _ h
    exact ⟨⟨rfl, (ihc _ _ _ h2).1⟩, (ihc _ _ _ h2).2⟩
theorem enc_inj {a b : Ty} (h : enc a = enc b) : a = b := (enc_pre a b [] [] (by rw [h])).1

def kids : Ty → List Ty
  | .ti | .tb | .tt | .tq => []
  | .tl a | .tx a => [a]
  | .tf a b | .tp a b => [a, b]
def hd : Ty → UInt8
  | .ti => 105 | .tb => 98 | .tt => 116 | .tq => 63 | .tl _ => 108 | .tx _ => 120 | .tf _ _ => 62 | .tp _ _ => 44
theorem enc_eq (t : Ty) : enc t = hd t :: encs (kids t) := by cases t <;> simp [enc, hd, kids, encs]
theorem ar_hd (t : Ty) : ar (hd t).toNat = (kids t).length := by cases t <;> rfl
def high : Ty → Nat
  | .ti | .tb | .tt | .tq => 1
  | .tl a | .tx a => high a + 1
  | .tf a b | .tp a b => max (high a) (high b) + 1
def isF : Ty → Bool
  | .tf _ _ => true
  | _ => false
def par (t : Ty) (w : List UInt8) : List UInt8 := if isF t then 40 :: (w ++ [41]) else w
/-- The words of a type. -/
def wd : Ty → List UInt8
  | .ti => [105, 110, 116] | .tb => [98, 111, 111, 108] | .tt => [116, 101, 120, 116] | .tq => [63]
  | .tl a => 91 :: (wd a ++ [93])
  | .tx a => [98, 111, 120, 32] ++ par a (wd a)
  | .tf a b => par a (wd a) ++ ([32, 45, 62, 32] ++ wd b)
  | .tp a b => 40 :: (wd a ++ ([44, 32] ++ (wd b ++ [41])))
theorem par_len (t : Ty) (w : List UInt8) : (par t w).length ≤ w.length + 2 := by unfold par; split <;> simp
theorem wd_len : ∀ t : Ty, (wd t).length + 6 ≤ 10 * (enc t).length
  | .ti | .tb | .tt | .tq => by decide
  | .tl a => by have := wd_len a; simp [wd, enc]; omega
  | .tx a => by have := wd_len a; have := par_len a (wd a); simp [wd, enc]; omega
  | .tf a b => by have := wd_len a; have := wd_len b; have := par_len a (wd a); simp [wd, enc]; omega
  | .tp a b => by have := wd_len a; have := wd_len b; simp [wd, enc]; omega
end Tp
end Go.Proofs.YtpikfdkgblghhaaGreatDoor.T3
namespace Go.Proofs.YtpikfdkgblghhaaGreatDoor.T3
namespace Tp

/-- The error of the first part that is no type; 0: all are. -/
def firstBad : List (List UInt8) → Nat
  | [] => 0
  | p :: r => if (chk p).1 = 0 then firstBad r else (chk p).1
theorem firstBad_app : ∀ (a b : List (List UInt8)), firstBad a = 0 → firstBad (a ++ b) = firstBad b
  | [], _, _ => rfl
  | p :: r, b, h => by
    unfold firstBad at h
    by_cases hp : (chk p).1 = 0
    · rw [if_pos hp] at h
      rw [List.cons_append, firstBad, if_pos hp, firstBad_app r b h]
    · rw [if_neg hp] at h
      exact absurd h hp
/-- P2.3: the error, and the type. -/
def mkF (h : UInt8) (ps : List (List UInt8)) : Nat × List UInt8 :=
  if ar h.toNat ≠ ps.length then (1, [])
  else if firstBad ps ≠ 0 then (firstBad ps, [])
  else if 64 < 1 + ps.flatten.length then (21, [])
  else (0, h :: ps.flatten)
theorem mk_arg {h : UInt8} {ps : List (List UInt8)} (e : ar h.toNat ≠ ps.length) : mkF h ps = (1, []) := by unfold mkF; rw [if_pos e]
theorem mk_bad {h : UInt8} {ps : List (List UInt8)} (e : ar h.toNat = ps.length) (e2 : firstBad ps ≠ 0) : mkF h ps = (firstBad ps, []) := by unfold mkF; rw [if_neg (by simpa using e), if_pos e2]
theorem mk_large {h : UInt8} {ps : List (List UInt8)} (e : ar h.toNat = ps.length) (e2 : firstBad ps = 0) (e3 : 64 < 1 + ps.flatten.length) : mkF h ps = (21, []) := by unfold mkF; rw [if_neg (by simpa using e), if_neg (by simpa using e2), if_pos e3]
theorem mk_ok {h : UInt8} {ps : List (List UInt8)} (e : ar h.toNat = ps.length) (e2 : firstBad ps = 0) (e3 : ¬ 64 < 1 + ps.flatten.length) : mkF h ps = (0, h :: ps.flatten) := by unfold mkF; rw [if_neg (by simpa using e), if_neg (by simpa using e2), if_neg e3]
theorem firstBad_encs : ∀ (ts : List Ty), (∀ t ∈ ts, (enc t).length ≤ 64) → firstBad (ts.map enc) = 0
  | [], _ => rfl
  | t :: ts, h => by
    rw [List.map_cons, firstBad, chk_enc t (h t (by simp)), if_pos rfl]
    exact firstBad_encs ts (fun u hu => h u (by simp [hu]))
theorem kid_len (t : Ty) : ∀ u ∈ kids t, (enc u).length < (enc t).length := by
  cases t <;> simp [kids, enc] <;> omega
theorem kid_high (t : Ty) : ∀ u ∈ kids t, high u < high t := by
  cases t <;> simp [kids, high] <;> omega
/-- Make of a type's head and parts is it. -/
theorem mk_parts (t : Ty) (h : (enc t).length ≤ 64) : mkF (hd t) ((kids t).map enc) = (0, enc t) := by
  have e : enc t = hd t :: ((kids t).map enc).flatten := enc_eq t
  rw [mk_ok (by rw [List.length_map]; exact ar_hd t) (firstBad_encs _ (fun u hu => by have := kid_len t u hu; omega)), ← e]
  rw [e] at h
  simpa [Nat.add_comm] using h
/-- What the program holds of a type that was read: nothing, if it is too large. -/
def val (t : Ty) : List UInt8 := if (enc t).length ≤ 64 then enc t else []
theorem val_len (t : Ty) : (val t).length ≤ 64 := by unfold val; split <;> simp_all
theorem chk_val (t : Ty) : ((chk (val t)).1 = 0) ↔ (enc t).length ≤ 64 := by
  unfold val
  split
  · rename_i h; simp [chk_enc t h, h]
  · rename_i h; simp [h, chk, beh]
theorem mk_len (h : UInt8) (ps : List (List UInt8)) : (mkF h ps).2.length ≤ 64 := by
  unfold mkF
  repeat' split
  all_goals simp at *
  omega
theorem made_val (t : Ty) : (mkF (hd t) ((kids t).map val)).2 = val t := by
  by_cases h : ∀ u ∈ kids t, (enc u).length ≤ 64
  · have hm : (kids t).map val = (kids t).map enc := List.map_congr_left (fun u hu => by simp [val, h u hu])
    rw [hm]
    have e : enc t = hd t :: ((kids t).map enc).flatten := enc_eq t
    by_cases h64 : (enc t).length ≤ 64
    · rw [mk_parts t h64]; simp [val, h64]
    · rw [mk_large (by rw [List.length_map]; exact ar_hd t) (firstBad_encs _ h)]
      · simp [val, h64]
      · rw [e] at h64; simp at h64 ⊢; omega
  · have h1 : ¬ (enc t).length ≤ 64 := fun h64 => h (fun u hu => by have := kid_len t u hu; omega)
    have hb : firstBad ((kids t).map val) ≠ 0 := by
      intro hb
      apply h
      clear h h1
      revert hb
      generalize kids t = ks
      induction ks with
      | nil => simp
      | cons a r ih =>
        intro hb u hu
        rw [List.map_cons, firstBad] at hb
        by_cases ha : (chk (val a)).1 = 0
        · rw [if_pos ha] at hb
          rcases List.mem_cons.1 hu with rfl | hu
          · exact (chk_val _).1 ha
          · exact ih hb u hu
        · rw [if_neg ha] at hb
          exact absurd hb ha
    rw [mk_bad (by rw [List.length_map]; exact ar_hd t) hb]
    simp [val, h1]
end Tp
end Go.Proofs.YtpikfdkgblghhaaGreatDoor.T3
namespace Go.Proofs.YtpikfdkgblghhaaGreatDoor.T3
set_option maxRecDepth 100000
open Go.RowKit

theorem ret_bool {a b : Bool} (h : a = b) : Ending.returned (.bool a) = .returned (.bool b) := by rw [h]
theorem ret_int {a b : Int} (h : a = b) : Ending.returned (.int .i64 a) = .returned (.int .i64 b) := by rw [h]

set_option maxHeartbeats 400000 in
theorem partsOf_any (c : Int) (w : World) :
    Calls Tryz.prog 186 #[.int .u8 c] w fun e w' => e = .returned (.int .i64 (Tp.ar c)) ∧ w' = w := by
  go_enter Tryz.func186, Tryz.ntmps186
  go_wp2
  all_goals
    go_ret
    refine ⟨ret_int ?_, rfl⟩
    unfold Tp.ar
    simp_all

end Go.Proofs.YtpikfdkgblghhaaGreatDoor.T3
namespace Go.Proofs.YtpikfdkgblghhaaGreatDoor.T3
set_option maxRecDepth 100000
open Go.RowKit

theorem str_len (s : ByteArray) : s.data.toList.length = s.size := by rw [Array.length_toList]; rfl
theorem str_B (s : ByteArray) (k : Nat) (h : k < s.size) : ((s[k]'h).toNat : Int) = Tp.B s.data.toList k := by
  unfold Tp.B
  have h' : k < s.data.toList.length := by simpa using h
  rw [List.getElem?_eq_getElem h']
  rfl

namespace Tp
theorem drop_B {l : List UInt8} {k : Nat} (h : k < l.length) : ∃ c : UInt8, l.drop k = c :: l.drop (k + 1) ∧ (c.toNat : Int) = B l k := by
  refine ⟨l[k], List.drop_eq_getElem_cons h, ?_⟩
  unfold B
  rw [List.getElem?_eq_getElem h]
  rfl
/-- So far m types are still to come. -/
def Sofar (l : List UInt8) (k m : Nat) : Prop := beh l 1 = (k + (beh (l.drop k) m).1, (beh (l.drop k) m).2)
theorem Sofar.start (l : List UInt8) : Sofar l 0 1 := by unfold Sofar; simp
theorem Sofar.step {l : List UInt8} {k m : Nat} (h : Sofar l k (m + 1)) (hk : k < l.length) (ha : 0 ≤ ar (B l k)) : Sofar l (k + 1) (m + (ar (B l k)).toNat) := by
  unfold Sofar at *
  obtain ⟨c, hd, hc⟩ := drop_B hk
  rw [h, hd, beh_cons _ _ _ (by rw [hc]; exact ha), hc]
  simp; omega
theorem Sofar.zero {l : List UInt8} {k : Nat} (h : Sofar l k 0) : beh l 1 = (k, true) := by unfold Sofar at h; rw [h, beh_zero]; rfl
theorem Sofar.bad {l : List UInt8} {k m : Nat} (h : Sofar l k (m + 1)) (hk : k < l.length) (ha : ar (B l k) < 0) : beh l 1 = (k, false) := by
  unfold Sofar at h
  obtain ⟨c, hd, hc⟩ := drop_B hk
  rw [h, hd, beh, if_pos (by rw [hc]; exact ha)]
  rfl
theorem Sofar.early {l : List UInt8} {m : Nat} (h : Sofar l l.length (m + 1)) : beh l 1 = (l.length, false) := by
  unfold Sofar at h
  rw [h, List.drop_length]
  rfl
end Tp

theorem chk_ret {l : List UInt8} {a b : Nat} (h : Tp.chk l = (a, b)) {w w' : World} (hw : w' = w) {e : Ending} (he : e = .returned (.tuple #[.int .i64 (a : Int), .int .i64 (b : Int)])) : e = .returned (.tuple #[.int .i64 (Tp.chk l).1, .int .i64 (Tp.chk l).2]) ∧ w' = w := by
  rw [h]; exact ⟨he, hw⟩

set_option maxHeartbeats 1000000 in
theorem check_any (s : ByteArray) (w : World) :
    Calls Tryz.prog 152 #[.string s] w fun e w' => e = .returned (.tuple #[.int .i64 (Tp.chk s.data.toList).1, .int .i64 (Tp.chk s.data.toList).2]) ∧ w' = w := by
  have hsl := str_len s
  by_cases h64 : 64 < s.size
  · have HN : Aside (Tp.chk s.data.toList = (21, 64)) := Tp.chk_long (by omega)
    have h64' : (64 : Int) < (s.size : Int) := by omega
    clear hsl
    go_enter Tryz.func152, Tryz.ntmps152
    go_wp2_with fail
    go_ret2
    exact chk_ret HN.out rfl rfl
  · have h64' : decide ((64 : Int) < (s.size : Int)) = false := by simp; omega
    have hsz : s.size ≤ 64 := by omega
    have HL : Aside (s.data.toList.length = s.size) := hsl
    clear hsl h64
    go_enter Tryz.func152, Tryz.ntmps152
    go_wp2_with fail
    go_loopg [4, 12] s.size (fun g mv t wr => wr = w ∧ ∃ k m : Nat, k + g = s.size ∧ t = .int .i64 k ∧ mv = .int .i64 m ∧ m ≤ k + 1 ∧ Aside (Tp.Sofar s.data.toList k m))
    case atStart => exact ⟨rfl, 0, 1, by omega, rfl, rfl, by omega, Tp.Sofar.start _⟩
    case round =>
      obtain ⟨rfl, k, m, hkg, rfl, rfl, hmk, HS⟩ := hrel
      by_cases hk : k < s.size
      · have hk' : (k : Int) < (s.size : Int) := by omega
        have hBk := str_B s k hk
        have hk0 : (0 : Int) ≤ (k : Int) := by omega
        have had := Tp.ar_bd (Tp.B s.data.toList k)
        have hkl : k < s.data.toList.length := by rw [HL.out]; exact hk
        cases m with
        | zero =>
          have HN : Aside (Tp.chk s.data.toList = (20, k)) := by
            have h0 := HS.out.zero
            show _ = _
            rw [Tp.chk_bad (by rw [HL.out]; omega) (.inr (by rw [h0, HL.out]; show k ≠ _; omega)), h0]
          go_wp2_with (go_at_call 186; refine (partsOf_any _ _).mono ?_; rintro e w' ⟨rfl, rfl⟩)
          go_ret2
          exact chk_ret HN.out rfl rfl
        | succ m =>
          have hm0 : ((((m + 1 : Nat) : Int)) == 0) = false := by simp; omega
          by_cases ha : Tp.ar (Tp.B s.data.toList k) < 0
          · have HN : Aside (Tp.chk s.data.toList = (20, k)) := by
              have h0 := HS.out.bad hkl ha
              show _ = _
              rw [Tp.chk_bad (by rw [HL.out]; omega) (.inl (by rw [h0])), h0]
            go_wp2_with (go_at_call 186; refine (partsOf_any _ _).mono ?_; rintro e w' ⟨rfl, rfl⟩)
            go_ret2
            exact chk_ret HN.out rfl rfl
          · have ha' : 0 ≤ Tp.ar (Tp.B s.data.toList k) := by omega
            have HT : Aside (Tp.Sofar s.data.toList (k + 1) (m + (Tp.ar (Tp.B s.data.toList k)).toNat)) := HS.out.step hkl ha'
            have had' : decide (Tp.ar (Tp.B s.data.toList k) < 0) = false := by simpa using ha'
            go_wp2_with (go_at_call 186; refine (partsOf_any _ _).mono ?_; rintro e w' ⟨rfl, rfl⟩)
            go_roundg (gk - 1)
            case measure => omega
            case rel => exact ⟨rfl, k + 1, m + (Tp.ar (Tp.B s.data.toList k)).toNat, by omega, by go_num, by go_num, by omega, HT⟩
      · have hk' : decide ((k : Int) < (s.size : Int)) = false := by simp; omega
        have hkn : k = s.size := by omega
        cases m with
        | zero =>
          have HN : Aside (Tp.chk s.data.toList = (0, 0)) := by
            have h0 := HS.out.zero
            show _ = _
            rw [Tp.chk_good (by rw [HL.out]; omega) (by rw [h0, HL.out, hkn])]
          go_wp2_with fail
          go_ret2
          exact chk_ret HN.out rfl rfl
        | succ m =>
          have hm0 : (0 : Int) < (((m + 1 : Nat) : Int)) := by omega
          have HN : Aside (Tp.chk s.data.toList = (20, s.size)) := by
            have h1 : Tp.Sofar s.data.toList s.data.toList.length (m + 1) := by have := HS.out; rw [hkn, ← HL.out] at this; exact this
            have h0 := h1.early
            show _ = _
            rw [Tp.chk_bad (by rw [HL.out]; omega) (.inl (by rw [h0])), h0, HL.out]
          go_wp2_with fail
          go_ret2
          exact chk_ret HN.out rfl rfl
end Go.Proofs.YtpikfdkgblghhaaGreatDoor.T3
namespace Go.Proofs.YtpikfdkgblghhaaGreatDoor.T3
set_option maxRecDepth 100000
open Go.RowKit

theorem grownBy_refl (w : World) (r : Option Nat) : w.grownBy w r := ⟨rfl, rfl, rfl, Nat.le_refl _, fun _ _ _ => rfl⟩
theorem grownBy_drewN {w w' : World} {r : Option Nat} (h : w.grownBy w' r) (n : Nat) : w.grownBy (w'.drewN n) r := ⟨h.os, h.tape, h.output, h.size, h.block⟩
theorem grownBy_drew {w w' : World} {r : Option Nat} (h : w.grownBy w' r) : w.grownBy w'.drew r := ⟨h.os, h.tape, h.output, h.size, h.block⟩
theorem grownBy_trans {a b c : World} {r : Option Nat} (h : a.grownBy b r) (k : b.grownBy c r) : a.grownBy c r :=
  ⟨k.os.trans h.os, k.tape.trans h.tape, k.output.trans h.output, Nat.le_trans h.size k.size, fun i hi hne => (k.block i (Nat.lt_of_lt_of_le hi h.size) hne).trans (h.block i hi hne)⟩
theorem grownBy_set {a b : World} {rb o : Nat} (h : a.grownBy b (some rb)) (u : Value) : a.grownBy (b.setCell ⟨rb, o, none⟩ u) (some rb) :=
  grownBy_trans h ⟨rfl, rfl, rfl, by simp [World.setCell], fun k hk hne => Below.heap_setCell _ _ _ _ (by intro e; exact hne (by rw [e]))⟩
theorem grownBy_cell {a b : World} {rb : Nat} (h : a.grownBy b (some rb)) {p : Nat} {o : Nat} {v : Value} (hne : p ≠ rb) (hc : a.cell? ⟨p, o, none⟩ = some v) : b.cell? ⟨p, o, none⟩ = some v :=
  h.cell hc (by simpa using hne)
theorem grownBy_alloc_pre {w w' : World} {o : Obj} {r : Option Nat} (h : (w.alloc o).grownBy w' r) : w.grownBy w' r :=
  ⟨h.os, h.tape, h.output, by have := h.size; simp at this; omega, fun k hk hne => (h.block k (by simp; omega) hne).trans (Below.heap_alloc _ _ _ hk)⟩
theorem grownBy_alloc {w w' : World} {r : Option Nat} (h : w.grownBy w' r) (o : Obj) : w.grownBy (w'.alloc o) r :=
  ⟨h.os, h.tape, h.output, by have := h.size; simp; omega, fun k hk hne => (Below.heap_alloc _ _ _ (by have := h.size; omega)).trans (h.block k hk hne)⟩
theorem grownBy_high {w w1 W : World} {rb : Nat} {row : Option Nat} (h1 : w.grownBy w1 (some rb)) (hg : w1.grownBy W row) (hr : ∀ x, row = some x → w.heap.size ≤ x) : w.grownBy W (some rb) :=
  ⟨hg.os.trans h1.os, hg.tape.trans h1.tape, hg.output.trans h1.output, Nat.le_trans h1.size hg.size, fun k hk hne =>
    (hg.block k (Nat.lt_of_lt_of_le hk h1.size) (fun e => by have := hr k e.symm; omega)).trans (h1.block k hk hne)⟩
/-- What stands below stands, but for one block. -/
theorem grownBy_below {w w1 W : World} {rb : Nat} (h1 : w.grownBy w1 (some rb)) (hB : Below w1.heap.size w1 W) : w.grownBy W (some rb) := by
  refine grownBy_trans h1 ⟨hB.os, hB.tape, hB.output, hB.size, fun k hk _ => hB.block k hk⟩

theorem block_cells {w : World} {g : Nat} {C : Array Value} {t : TypeId} (h : w.heap[g]? = some (.cells C t (0, 0))) : (∀ o, w.cell? ⟨g, o, none⟩ = C[o]?) ∧ ∀ o, w.frozen? ⟨g, o, none⟩ = false := by
  refine ⟨fun o => ?_, fun o => ?_⟩
  · simp [World.cell?, h]
  · simp [World.frozen?, h]
theorem cells_list_new (w : World) (xs : List Value) (t : TypeId) : ∀ j u, xs[j]? = some u → (w.alloc (.cells xs.toArray t)).cell? ((⟨w.heap.size, 0, none⟩ : Addr).add j) = some u := by
  intro j u hj
  have hb := (block_cells (heap_alloc_new w (.cells xs.toArray t))).1 j
  rw [List.getElem?_toArray, hj] at hb
  by_cases h0 : j = 0
  · subst h0; simpa [Addr.add] using hb
  · simpa [Addr.add, h0] using hb
theorem own_lit (w : World) (xs : List Value) (e : TypeId) (hm : xs.length ≤ maxLen) : (w.alloc (.cells xs.toArray e)).ownsRow w.heap.size e 1 (.slice (some ⟨w.heap.size, 0, none⟩) xs.length xs.length) xs.length xs :=
  ⟨by simp, .inr ⟨w.heap.size, xs.length, xs.toArray, rfl, Nat.le_refl _, heap_alloc_new _ _, Nat.le_refl _, hm, by simp, by simp⟩⟩
theorem own_nil (w : World) (base : Nat) (e : TypeId) (sz : Nat) : w.ownsRow base e sz (.slice none 0 0) 0 [] := ⟨by simp, .inl ⟨rfl, rfl⟩⟩
theorem own_len {W : World} {base e size n : Nat} {v : Value} {xs : List Value} (h : W.ownsRow base e size v n xs) : ∃ a c, v = .slice a n c := by
  obtain ⟨_, ⟨rfl, rfl⟩ | ⟨g, cap, cur, rfl, _⟩⟩ := h
  · exact ⟨none, 0, rfl⟩
  · exact ⟨some ⟨g, 0, none⟩, cap, rfl⟩
/-- The cells of a row that the call owns. -/
theorem own_cells {W : World} {base e size n : Nat} {v : Value} {xs : List Value} (h : W.ownsRow base e size v n xs) (hn : 0 < n) : ∃ g cap, v = .slice (some ⟨g, 0, none⟩) n cap ∧ n ≤ cap ∧ base ≤ g ∧ ∀ j, j < n * size → W.cell? ⟨g, j, none⟩ = xs[j]? := by
  obtain ⟨h1, ⟨rfl, h0⟩ | ⟨g, cap, cur, rfl, hg, hh, hc, _, hs, ht⟩⟩ := h
  · omega
  · refine ⟨g, cap, rfl, hc, hg, fun j hj => ?_⟩
    rw [← ht, List.getElem?_take, if_pos hj, Array.getElem?_toList]
    simp [World.cell?, hh]

/-- A text of these bytes. -/
def S (l : List UInt8) : ByteArray := ⟨l.toArray⟩
theorem S_list (l : List UInt8) : (S l).data.toList = l := rfl
theorem S_size (l : List UInt8) : (S l).size = l.length := by simp [S, ByteArray.size]
theorem S_of (s : ByteArray) : s = S s.data.toList := rfl
theorem S_cut (l : List UInt8) (a b : Nat) : (S l).extract a b = S ((l.drop a).take (b - a)) := by
  apply ByteArray.ext
  simp [S, ByteArray.data_extract]
/-- A row of texts. -/
def tcells (ls : List (List UInt8)) : List Value := ls.map (fun l => .string (S l))
theorem tcells_append (a b : List (List UInt8)) : tcells (a ++ b) = tcells a ++ tcells b := by simp [tcells]
theorem tcells_one (l : List (List UInt8)) : ∀ u ∈ tcells l, u.oneCell' = true := by
  intro u hu
  unfold tcells at hu
  obtain ⟨c, _, rfl⟩ := List.mem_map.1 hu
  rfl
theorem info9 : (Tryz.prog.info? 9).map (fun i => (i.zero, i.size, i.bytes)) = some (some (.string ⟨#[]⟩), 1, 16) := by kernel_rfl
theorem ty31 : Tryz.prog.underlying 149 = some (.slice 9) := by kernel_rfl
end Go.Proofs.YtpikfdkgblghhaaGreatDoor.T3
namespace Go.Proofs.YtpikfdkgblghhaaGreatDoor.T3
set_option maxRecDepth 100000
open Go.RowKit

set_option maxHeartbeats 400000 in
theorem isType_any (s : ByteArray) (w : World) :
    Calls Tryz.prog 225 #[.string s] w fun e w' => e = .returned (.bool ((Tp.chk s.data.toList).1 == 0)) ∧ w' = w := by
  go_enter Tryz.func225, Tryz.ntmps225
  go_wp2_with (go_at_call 152; refine (check_any _ _).mono ?_; rintro e w' ⟨rfl, rfl⟩)
  go_ret
  refine ⟨ret_bool ?_, rfl⟩
  rw [Bool.eq_iff_iff]; simp

theorem isType_yes (s : ByteArray) (h : (Tp.chk s.data.toList).1 = 0) (w : World) : Calls Tryz.prog 225 #[.string s] w fun e w' => e = .returned (.bool true) ∧ w' = w := by
  have := isType_any s w; rw [h] at this; exact this
theorem isType_no (s : ByteArray) (h : (Tp.chk s.data.toList).1 ≠ 0) (w : World) : Calls Tryz.prog 225 #[.string s] w fun e w' => e = .returned (.bool false) ∧ w' = w := by
  have := isType_any s w
  rw [show ((Tp.chk s.data.toList).1 == 0) = false by simpa using h] at this; exact this

theorem S_head (t : Tp.Ty) : 0 < (S (Tp.enc t)).size ∧ ∀ h : 0 < (S (Tp.enc t)).size, ((S (Tp.enc t))[0]'h).toNat = (Tp.hd t).toNat := by
  refine ⟨by rw [S_size]; exact Tp.enc_pos t, fun h => ?_⟩
  have := Tp.enc_eq t
  show (((Tp.enc t).toArray)[0]'_).toNat = _
  simp [this]

theorem beh_true {l : List UInt8} {j m n : Nat} (h : Tp.beh (l.drop j) (m + 1) = (n, true)) : j < l.length ∧ 0 ≤ Tp.ar (Tp.B l j) ∧ ∃ n', n = n' + 1 ∧ Tp.beh (l.drop (j + 1)) (m + (Tp.ar (Tp.B l j)).toNat) = (n', true) := by
  by_cases hj : j < l.length
  · obtain ⟨c, hd, hc⟩ := Tp.drop_B hj
    rw [hd] at h
    by_cases ha : Tp.ar (Tp.B l j) < 0
    · rw [Tp.beh, if_pos (by rw [hc]; exact ha)] at h
      simp at h
    · rw [Tp.beh_cons _ _ _ (by rw [hc]; omega), hc] at h
      exact ⟨hj, by omega, _, (Prod.mk.inj h).1.symm, Prod.ext rfl (Prod.mk.inj h).2⟩
  · rw [List.drop_eq_nil_of_le (by omega)] at h
    simp [Tp.beh] at h

set_option maxHeartbeats 1000000 in
theorem endOf_any (s : ByteArray) (hs : s.size ≤ 64) (k n : Nat) (hb : Tp.beh (s.data.toList.drop k) 1 = (n, true)) (w : World) :
    Calls Tryz.prog 226 #[.string s, .int .i64 k] w fun e w' => e = .returned (.int .i64 (k + n : Nat)) ∧ w' = w := by
  have HL : Aside (s.data.toList.length = s.size) := str_len s
  have HB : Aside (Tp.beh (s.data.toList.drop k) 1 = (n, true)) := hb
  have HJ : k < s.size := by have := (beh_true hb).1; rw [HL.out] at this; exact this
  clear hb
  go_enter Tryz.func226, Tryz.ntmps226
  go_wp2_with fail
  go_loopg [1, 5] n (fun g t mv wr => ∃ j m : Nat, wr = w ∧ t = .int .i64 j ∧ mv = .int .i64 m ∧ j + g = k + n ∧ m ≤ j + 1 ∧ j ≤ s.size ∧ Aside (Tp.beh (s.data.toList.drop j) m = (g, true)))
  case atStart => exact ⟨k, 1, rfl, rfl, rfl, by omega, by omega, by omega, HB⟩
  case round =>
    obtain ⟨j, m, rfl, rfl, rfl, hjg, hmj, hjs, HS⟩ := hrel
    cases m with
    | zero =>
      have hg : gk = 0 := by have := HS.out; rw [Tp.beh_zero] at this; exact (Prod.mk.inj this).1.symm
      go_wp2_with fail
      go_ret
      exact ⟨ret_int (by omega), rfl⟩
    | succ m =>
      obtain ⟨hj, ha, n', rfl, h2⟩ := beh_true HS.out
      rw [HL.out] at hj
      have hj' : (j : Int) < (s.size : Int) := by omega
      have hBk := str_B s j hj
      have hj0 : (0 : Int) ≤ (j : Int) := by omega
      have had := Tp.ar_bd (Tp.B s.data.toList j)
      have hm0 : (0 : Int) < (((m + 1 : Nat) : Int)) := by omega
      have H2 : Aside (Tp.beh (s.data.toList.drop (j + 1)) (m + (Tp.ar (Tp.B s.data.toList j)).toNat) = (n', true)) := h2
      clear h2
      go_wp2_with (go_at_call 186; refine (partsOf_any _ _).mono ?_; rintro e w' ⟨rfl, rfl⟩)
      go_roundg n'
      case measure => omega
      case rel => exact ⟨j + 1, m + (Tp.ar (Tp.B s.data.toList j)).toNat, rfl, by go_num, by go_num, by omega, by omega, by omega, H2⟩

set_option maxHeartbeats 400000 in
theorem parts_no (s : ByteArray) (h : (Tp.chk s.data.toList).1 ≠ 0) (w : World) :
    Calls Tryz.prog 196 #[.string s] w fun e w' => e = .returned (.slice none 0 0) ∧ w' = w := by
  go_enter Tryz.func196, Tryz.ntmps196
  go_wp2_with (go_at_call 225; refine (isType_no _ h _).mono ?_; rintro e w' ⟨rfl, rfl⟩)
  go_ret
  exact ⟨rfl, rfl⟩

set_option maxHeartbeats 1000000 in
theorem parts_yes (t : Tp.Ty) (h : (Tp.enc t).length ≤ 64) (w : World) :
    Calls Tryz.prog 196 #[.string (S (Tp.enc t))] w fun e w' => ∃ v, e = .returned v ∧ w'.ownsRow w.heap.size 9 1 v (Tp.kids t).length (tcells ((Tp.kids t).map Tp.enc)) ∧ Below w.heap.size w w' := by
  have hc : (Tp.chk (S (Tp.enc t)).data.toList).1 = 0 := by rw [S_list, Tp.chk_enc t h]
  have hsz : (S (Tp.enc t)).size ≤ 64 := by rw [S_size]; exact h
  have HE : Aside (Tp.enc t = Tp.hd t :: Tp.encs (Tp.kids t)) := Tp.enc_eq t
  have HZ : Aside ((S (Tp.enc t)).size = (Tp.enc t).length) := S_size _
  obtain ⟨i0, hi, hz0, hz1, hz2⟩ := info_parts info9
  go_enter Tryz.func196, Tryz.ntmps196
  go_wp2_with (go_at_call 225; refine (isType_yes _ hc _).mono ?_; rintro e w' ⟨rfl, hw'⟩; replace hw' := hw'.symm; subst hw')
  go_loopg [3, 4] (Tp.kids t).length (fun g v fv wr => ∃ (ds ks : List Tp.Ty), Aside (Tp.kids t = ds ++ ks) ∧ ks.length = g ∧ ds.length ≤ 2 ∧ fv = .int .i64 ((1 + (Tp.encs ds).length : Nat) : Int) ∧ wr.ownsRow w.heap.size 9 1 v ds.length (tcells (ds.map Tp.enc)) ∧ Below w.heap.size w wr)
  case atStart => exact ⟨[], Tp.kids t, rfl, rfl, by simp, rfl, own_nil _ _ _ _, Below.refl _ _⟩
  case round =>
    obtain ⟨ds, ks, HK, hg, hd2, rfl, hown, hB⟩ := hrel
    have hBs := hB.size
    obtain ⟨va, vc, rfl⟩ := own_len hown
    have HD : Aside ((Tp.enc t).drop (1 + (Tp.encs ds).length) = Tp.encs ks) := by
      show _ = _
      rw [HE.out, HK.out, Nat.add_comm, List.drop_succ_cons]
      simp [Tp.encs]
    cases ks with
    | nil =>
      have hl : ¬ ((1 + (Tp.encs ds).length : Nat) : Int) < ((S (Tp.enc t)).size : Int) := by
        have h1 := HE.out
        rw [HK.out, List.append_nil] at h1
        rw [HZ.out, h1]
        simp; omega
      go_wp2_with fail
      go_ret
      refine ⟨_, rfl, ?_, hB⟩
      rw [HK.out, List.append_nil]
      exact hown
    | cons u ks =>
      have hdd := HD.out
      rw [Tp.encs_cons] at hdd
      have hb : Tp.beh ((S (Tp.enc t)).data.toList.drop (1 + (Tp.encs ds).length)) 1 = ((Tp.enc u).length, true) := by
        rw [S_list, hdd, Tp.beh_enc, Tp.beh_zero]; rfl
      have hlen : 1 + (Tp.encs ds).length + (Tp.enc u).length ≤ (S (Tp.enc t)).size := by
        rw [HZ.out]
        have := congrArg List.length hdd
        have hp := Tp.enc_pos u
        simp at this
        omega
      have hl : ((1 + (Tp.encs ds).length : Nat) : Int) < ((S (Tp.enc t)).size : Int) := by
        have hp := Tp.enc_pos u
        omega
      have HC : Aside ((S (Tp.enc t)).extract (1 + (Tp.encs ds).length) (1 + (Tp.encs ds).length + (Tp.enc u).length) = S (Tp.enc u)) := by
        show _ = _
        rw [S_cut, hdd, show 1 + (Tp.encs ds).length + (Tp.enc u).length - (1 + (Tp.encs ds).length) = (Tp.enc u).length by omega, List.take_left' rfl]
      clear hdd
      generalize hk : 1 + (Tp.encs ds).length = k at *
      generalize hn : (Tp.enc u).length = n at *
      generalize hs : S (Tp.enc t) = s at *
      have hk0 : (0 : Int) ≤ (k : Int) := by omega
      go_wp2_with (first | (go_at_call 226; refine (endOf_any _ hsz _ _ hb _).mono ?_; rintro e w' ⟨rfl, hw'⟩; replace hw' := hw'.symm; subst hw') | (at_builtin; go_must (refine wpList_append_own _ rfl _ _ 149 rfl w.heap.size 9 i0 (.string ⟨#[]⟩) 1 16 ty31 hi hz0 hz1 hz2 rfl (by decide) (.slice va ds.length vc) _ _ rfl (hown.alloc _) ⟨wr.heap.size, 0, none⟩ 1 1 [.string (s.extract k (k + n))] rfl rfl (cells_list_new _ [.string (s.extract k (k + n))] 9) (fun u hu => by simp at hu; subst hu; rfl) (by unfold maxLen; omega) (by omega) (by simp; omega) ?_); intro v2 w2 hown2 hg2 _))
      go_roundg ks.length
      case measure => simp at hg; omega
      case rel =>
        refine ⟨ds ++ [u], ks, by show _ = _; rw [HK.out]; simp, rfl, ?_, ?_, ?_, hB.grown (grownBy_alloc_pre hg2) hBs (fun x e => (hown.lt x e).1)⟩
        · have h1 := congrArg List.length HK.out
          have h2 : (Tp.kids t).length ≤ 2 := by cases t <;> simp [Tp.kids]
          simp at h1 ⊢; omega
        · rw [show Tp.encs (ds ++ [u]) = Tp.encs ds ++ Tp.enc u by simp [Tp.encs], List.length_append, hn]
          go_num
        · rw [HC.out] at hown2
          rw [List.map_append, tcells_append, List.length_append]
          exact hown2
end Go.Proofs.YtpikfdkgblghhaaGreatDoor.T3
