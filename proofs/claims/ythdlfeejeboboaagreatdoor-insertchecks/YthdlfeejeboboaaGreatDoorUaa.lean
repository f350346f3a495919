/- Plain functions on lists of bytes: what layer 2 of the document says a type is. Nothing of the program is named here. Plain functions: what layer 2 of the document says Make answers. Nothing of the program is named here. What the program's and the document's questions about one byte answer. What the program's Check, isType, endOf, Head, Static answer. -/
import Derived.Below
import Derived.Test.YthdlfeejeboboaaGreatDoorRows
import Derived.WalkKit
import Derived.WalkSpells
import Derived.WalkLawsBesides
import Derived.Deep.LoopGhost
import Derived.Deep.QuietTactic
import Derived.BigQuiet
namespace Go.Proofs.YthdlfeejeboboaaGreatDoor.T3
namespace Tp

def B (bs : List UInt8) (k : Nat) : Int := ((bs[k]?.getD 0).toNat : Int)
theorem B_bd (bs : List UInt8) (k : Nat) : 0 ≤ B bs k ∧ B bs k ≤ 255 := by
  unfold B
  have := (bs[k]?.getD 0).toNat_lt
  omega

def ar (c : Int) : Int :=
  if c == 105 || c == 98 || c == 116 || c == 63 then 0 else if c == 108 || c == 120 then 1 else if c == 62 || c == 44 then 2 else -1
theorem ar_bd (c : Int) : -1 ≤ ar c ∧ ar c ≤ 2 := by unfold ar; repeat' split <;> omega

def beh : List UInt8 → Nat → Nat × Bool
  | _, 0 => (0, true)
  | [], _ + 1 => (0, false)
  | c :: r, m + 1 => if ar c.toNat < 0 then (0, false) else ((beh r (m + (ar c.toNat).toNat)).1 + 1, (beh r (m + (ar c.toNat).toNat)).2)

theorem beh_zero (bs : List UInt8) : beh bs 0 = (0, true) := by cases bs <;> rfl

inductive Ty
  | ti | tb | tt | tq
  | tl (a : Ty) | tx (a : Ty)
  | tf (a b : Ty) | tp (a b : Ty)
  deriving DecidableEq

def enc : Ty → List UInt8
  | .ti => [105] | .tb => [98] | .tt => [116] | .tq => [63]
  | .tl a => 108 :: enc a | .tx a => 120 :: enc a
  | .tf a b => 62 :: (enc a ++ enc b) | .tp a b => 44 :: (enc a ++ enc b)
theorem enc_pos (t : Ty) : 0 < (enc t).length := by cases t <;> simp [enc]

theorem beh_cons (c : UInt8) (r : List UInt8) (m : Nat) (h : 0 ≤ ar c.toNat) : beh (c :: r) (m + 1) = ((beh r (m + (ar c.toNat).toNat)).1 + 1, (beh r (m + (ar c.toNat).toNat)).2) := by
  rw [beh, if_neg (by omega)]
theorem beh_enc : ∀ (t : Ty) (r : List UInt8) (m : Nat), beh (enc t ++ r) (m + 1) = ((enc t).length + (beh r m).1, (beh r m).2)
  | .ti, r, m => by rw [show enc .ti ++ r = 105 :: r from rfl, beh_cons _ _ _ (by decide), show m + (ar (105 : UInt8).toNat).toNat = m from rfl]; simp [enc]; omega
  | .tb, r, m => by rw [show enc .tb ++ r = 98 :: r from rfl, beh_cons _ _ _ (by decide), show m + (ar (98 : UInt8).toNat).toNat = m from rfl]; simp [enc]; omega
  | .tt, r, m => by rw [show enc .tt ++ r = 116 :: r from rfl, beh_cons _ _ _ (by decide), show m + (ar (116 : UInt8).toNat).toNat = m from rfl]; simp [enc]; omega
  | .tq, r, m => by rw [show enc .tq ++ r = 63 :: r from rfl, beh_cons _ _ _ (by decide), show m + (ar (63 : UInt8).toNat).toNat = m from rfl]; simp [enc]; omega
  | .tl a, r, m => by
    rw [show enc (.tl a) ++ r = 108 :: (enc a ++ r) from rfl, beh_cons _ _ _ (by decide), show m + (ar (108 : UInt8).toNat).toNat = m + 1 from rfl, beh_enc a r m]
    simp [enc]; omega
  | .tx a, r, m => by
    rw [show enc (.tx a) ++ r = 120 :: (enc a ++ r) from rfl, beh_cons _ _ _ (by decide), show m + (ar (120 : UInt8).toNat).toNat = m + 1 from rfl, beh_enc a r m]
    simp [enc]; omega
  | .tf a b, r, m => by
    rw [show enc (.tf a b) ++ r = 62 :: (enc a ++ (enc b ++ r)) from by simp [enc], beh_cons _ _ _ (by decide), show m + (ar (62 : UInt8).toNat).toNat = (m + 1) + 1 from rfl, beh_enc a _ (m + 1), beh_enc b r m]
    simp [enc]; omega
  | .tp a b, r, m => by
    rw [show enc (.tp a b) ++ r = 44 :: (enc a ++ (enc b ++ r)) from by simp [enc], beh_cons _ _ _ (by decide), show m + (ar (44 : UInt8).toNat).toNat = (m + 1) + 1 from rfl, beh_enc a _ (m + 1), beh_enc b r m]
    simp [enc]; omega

theorem ar_cases (c : UInt8) : (ar c.toNat = 0 ∧ (c = 105 ∨ c = 98 ∨ c = 116 ∨ c = 63)) ∨ (ar c.toNat = 1 ∧ (c = 108 ∨ c = 120)) ∨ (ar c.toNat = 2 ∧ (c = 62 ∨ c = 44)) ∨ ar c.toNat = -1 := by
  have key : ∀ n : Nat, ((c.toNat : Int) == n) = true → c = UInt8.ofNat n := by
    intro n h
    have h1 : (c.toNat : Int) = n := by simpa using h
    have h' : c.toNat = n := by omega
    rw [← h']; simp
  unfold ar
  split
  · rename_i h
    left; refine ⟨rfl, ?_⟩
    simp only [Bool.or_eq_true] at h
    rcases h with ((h | h) | h) | h
    · exact .inl (key 105 h)
    · exact .inr (.inl (key 98 h))
    · exact .inr (.inr (.inl (key 116 h)))
    · exact .inr (.inr (.inr (key 63 h)))
  · split
    · rename_i h
      right; left; refine ⟨rfl, ?_⟩
      simp only [Bool.or_eq_true] at h
      rcases h with h | h
      · exact .inl (key 108 h)
      · exact .inr (key 120 h)
    · split
      · rename_i h
        right; right; left; refine ⟨rfl, ?_⟩
        simp only [Bool.or_eq_true] at h
        rcases h with h | h
        · exact .inl (key 62 h)
        · exact .inr (key 44 h)
      · right; right; right; rfl

def encs (ts : List Ty) : List UInt8 := (ts.map enc).flatten
theorem encs_cons (t : Ty) (ts : List Ty) : encs (t :: ts) = enc t ++ encs ts := rfl

theorem beh_dec : ∀ (bs : List UInt8) (m e : Nat), beh bs m = (e, true) → ∃ ts : List Ty, ts.length = m ∧ bs.take e = encs ts
  | bs, 0, e => fun h => by
    rw [beh_zero] at h
    cases h
    exact ⟨[], rfl, rfl⟩
  | [], m + 1, e => fun h => by simp [beh] at h
  | c :: r, m + 1, e => fun h => by
    rcases ar_cases c with ⟨h0, hc⟩ | ⟨h0, hc⟩ | ⟨h0, hc⟩ | h0
    · rw [beh_cons _ _ _ (by omega), h0] at h
      obtain ⟨e', he, hb⟩ : ∃ e', e = e' + 1 ∧ beh r m = (e', true) := ⟨_, (Prod.mk.inj h).1.symm, Prod.ext rfl (Prod.mk.inj h).2⟩
      obtain ⟨ts, hl, ht⟩ := beh_dec r m e' hb
      subst he
      rcases hc with rfl | rfl | rfl | rfl
      · exact ⟨.ti :: ts, by simp [hl], by rw [List.take_succ_cons, ht]; rfl⟩
      · exact ⟨.tb :: ts, by simp [hl], by rw [List.take_succ_cons, ht]; rfl⟩
      · exact ⟨.tt :: ts, by simp [hl], by rw [List.take_succ_cons, ht]; rfl⟩
      · exact ⟨.tq :: ts, by simp [hl], by rw [List.take_succ_cons, ht]; rfl⟩
    · rw [beh_cons _ _ _ (by omega), h0] at h
      obtain ⟨e', he, hb⟩ : ∃ e', e = e' + 1 ∧ beh r (m + 1) = (e', true) := ⟨_, (Prod.mk.inj h).1.symm, Prod.ext rfl (Prod.mk.inj h).2⟩
      obtain ⟨ts, hl, ht⟩ := beh_dec r (m + 1) e' hb
      subst he
      match ts, hl with
      | a :: ts, hl =>
        rcases hc with rfl | rfl
        · exact ⟨.tl a :: ts, by simpa using hl, by rw [List.take_succ_cons, ht]; rfl⟩
        · exact ⟨.tx a :: ts, by simpa using hl, by rw [List.take_succ_cons, ht]; rfl⟩
    · rw [beh_cons _ _ _ (by omega), h0] at h
      obtain ⟨e', he, hb⟩ : ∃ e', e = e' + 1 ∧ beh r (m + 2) = (e', true) := ⟨_, (Prod.mk.inj h).1.symm, Prod.ext rfl (Prod.mk.inj h).2⟩
      obtain ⟨ts, hl, ht⟩ := beh_dec r (m + 2) e' hb
      subst he
      match ts, hl with
      | a :: b :: ts, hl =>
        rcases hc with rfl | rfl
        · exact ⟨.tf a b :: ts, by simpa using hl, by rw [List.take_succ_cons, ht]; simp [encs, enc]⟩
        · exact ⟨.tp a b :: ts, by simpa using hl, by rw [List.take_succ_cons, ht]; simp [encs, enc]⟩
    · rw [beh, if_pos (by omega)] at h
      simp at h

def chk (bs : List UInt8) : Nat × Nat :=
  if 64 < bs.length then (21, 64) else if (beh bs 1).2 && (beh bs 1).1 == bs.length then (0, 0) else (20, (beh bs 1).1)
theorem chk_long {bs : List UInt8} (h : 64 < bs.length) : chk bs = (21, 64) := by unfold chk; rw [if_pos h]
theorem chk_bad {bs : List UInt8} (h : ¬ 64 < bs.length) (h2 : (beh bs 1).2 = false ∨ (beh bs 1).1 ≠ bs.length) : chk bs = (20, (beh bs 1).1) := by
  unfold chk
  rw [if_neg h, if_neg]
  rcases h2 with h2 | h2 <;> simp [h2]
theorem chk_good {bs : List UInt8} (h : ¬ 64 < bs.length) (h2 : beh bs 1 = (bs.length, true)) : chk bs = (0, 0) := by
  unfold chk
  rw [if_neg h, h2]
  simp
theorem chk_enc (t : Ty) (h : (enc t).length ≤ 64) : chk (enc t) = (0, 0) := by
  refine chk_good (by omega) ?_
  have := beh_enc t [] 0
  rw [List.append_nil] at this
  rw [this, beh_zero]
  rfl
theorem chk_dec {bs : List UInt8} (h : (chk bs).1 = 0) : ∃ t, bs = enc t ∧ (enc t).length ≤ 64 := by
  unfold chk at h
  split at h
  · simp at h
  · split at h
    · rename_i h1 h2
      simp at h2
      obtain ⟨ts, hl, ht⟩ := beh_dec bs 1 bs.length (Prod.ext h2.2 h2.1)
      rw [List.take_length] at ht
      match ts, hl with
      | [t], _ =>
        have e : bs = enc t := by rw [ht]; simp [encs]
        exact ⟨t, e, by rw [← e]; omega⟩
    · simp at h
theorem chk_snd {bs : List UInt8} (h : (chk bs).1 = 0) : chk bs = (0, 0) := by
  obtain ⟨t, rfl, hl⟩ := chk_dec h
  exact chk_enc t hl

theorem enc_pre : ∀ (a b : Ty) (r s : List UInt8), enc a ++ r = enc b ++ s → a = b ∧ r = s := by
  intro a
  induction a with
  | ti => intro b r s h; cases b <;> simp [enc] at h ⊢; exact h
  | tb => intro b r s h; cases b <;> simp [enc] at h ⊢; exact h
  | tt => intro b r s h; cases b <;> simp [enc] at h ⊢; exact h
  | tq => intro b r s h; cases b <;> simp [enc] at h ⊢; exact h
  | tl a ih => intro b r s h; cases b <;> simp [enc] at h ⊢; exact ih _ _ _ h
  | tx a ih => intro b r s h; cases b <;> simp [enc] at h ⊢; exact ih _ _ _ h
  | tf a c iha ihc =>
    intro b r s h
    cases b <;> simp [enc] at h ⊢
    obtain ⟨rfl, h2⟩ := iha _ _ _ h
    exact ⟨⟨rfl, (ihc _ _ _ h2).1⟩, (ihc _ _ _ h2).2⟩
  | tp a c iha ihc =>
    intro b r s h
    cases b <;> simp [enc] at h ⊢
    obtain ⟨rfl, h2⟩ := iha _ _ _ h
    exact ⟨⟨rfl, (ihc _ _ _ h2).1⟩, (ihc _ _ _ h2).2⟩
theorem enc_inj {a b : Ty} (h : enc a = enc b) : a = b := (enc_pre a b [] [] (by rw [h])).1

def kids : Ty → List Ty
  | .ti | .tb | .tt | .tq => []
  | .tl a | .tx a => [a]
  | .tf a b | .tp a b => [a, b]
def hd : Ty → UInt8
  | .ti => 105 | .tb => 98 | .tt => 116 | .tq => 63 | .tl _ => 108 | .tx _ => 120 | .tf _ _ => 62 | .tp _ _ => 44
theorem enc_eq (t : Ty) : enc t = hd t :: encs (kids t) := by cases t <;> simp [enc, hd, kids, encs]
theorem ar_hd (t : Ty) : ar (hd t).toNat = (kids t).length := by cases t <;> rfl
def high : Ty → Nat
  | .ti | .tb | .tt | .tq => 1
  | .tl a | .tx a => high a + 1
  | .tf a b | .tp a b => max (high a) (high b) + 1
end Tp
end Go.Proofs.YthdlfeejeboboaaGreatDoor.T3
namespace Go.Proofs.YthdlfeejeboboaaGreatDoor.T3
namespace Tp

def firstBad : List (List UInt8) → Nat
  | [] => 0
  | p :: r => if (chk p).1 = 0 then firstBad r else (chk p).1
theorem firstBad_app : ∀ (a b : List (List UInt8)), firstBad a = 0 → firstBad (a ++ b) = firstBad b
  | [], _, _ => rfl
  | p :: r, b, h => by
    unfold firstBad at h
    by_cases hp : (chk p).1 = 0
    · rw [if_pos hp] at h
      rw [List.cons_append, firstBad, if_pos hp, firstBad_app r b h]
    · rw [if_neg hp] at h
      exact absurd h hp
def mkF (h : UInt8) (ps : List (List UInt8)) : Nat × List UInt8 :=
  if ar h.toNat ≠ ps.length then (1, [])
  else if firstBad ps ≠ 0 then (firstBad ps, [])
  else if 64 < 1 + ps.flatten.length then (21, [])
  else (0, h :: ps.flatten)
theorem mk_arg {h : UInt8} {ps : List (List UInt8)} (e : ar h.toNat ≠ ps.length) : mkF h ps = (1, []) := by unfold mkF; rw [if_pos e]
theorem mk_bad {h : UInt8} {ps : List (List UInt8)} (e : ar h.toNat = ps.length) (e2 : firstBad ps ≠ 0) : mkF h ps = (firstBad ps, []) := by unfold mkF; rw [if_neg (by simpa using e), if_pos e2]
theorem mk_large {h : UInt8} {ps : List (List UInt8)} (e : ar h.toNat = ps.length) (e2 : firstBad ps = 0) (e3 : 64 < 1 + ps.flatten.length) : mkF h ps = (21, []) := by unfold mkF; rw [if_neg (by simpa using e), if_neg (by simpa using e2), if_pos e3]
theorem mk_ok {h : UInt8} {ps : List (List UInt8)} (e : ar h.toNat = ps.length) (e2 : firstBad ps = 0) (e3 : ¬ 64 < 1 + ps.flatten.length) : mkF h ps = (0, h :: ps.flatten) := by unfold mkF; rw [if_neg (by simpa using e), if_neg (by simpa using e2), if_neg e3]
theorem firstBad_encs : ∀ (ts : List Ty), (∀ t ∈ ts, (enc t).length ≤ 64) → firstBad (ts.map enc) = 0
  | [], _ => rfl
  | t :: ts, h => by
    rw [List.map_cons, firstBad, chk_enc t (h t (by simp)), if_pos rfl]
    exact firstBad_encs ts (fun u hu => h u (by simp [hu]))
theorem kid_len (t : Ty) : ∀ u ∈ kids t, (enc u).length < (enc t).length := by
  cases t <;> simp [kids, enc] <;> omega
theorem mk_parts (t : Ty) (h : (enc t).length ≤ 64) : mkF (hd t) ((kids t).map enc) = (0, enc t) := by
  have e : enc t = hd t :: ((kids t).map enc).flatten := enc_eq t
  rw [mk_ok (by rw [List.length_map]; exact ar_hd t) (firstBad_encs _ (fun u hu => by have := kid_len t u hu; omega)), ← e]
  rw [e] at h
  simpa [Nat.add_comm] using h
def val (t : Ty) : List UInt8 := if (enc t).length ≤ 64 then enc t else []
end Tp
end Go.Proofs.YthdlfeejeboboaaGreatDoor.T3
namespace Go.Proofs.YthdlfeejeboboaaGreatDoor.T3
set_option maxRecDepth 100000
open Go.RowKit

theorem ret_bool {a b : Bool} (h : a = b) : Ending.returned (.bool a) = .returned (.bool b) := by rw [h]
theorem ret_int {a b : Int} (h : a = b) : Ending.returned (.int .i64 a) = .returned (.int .i64 b) := by rw [h]

set_option maxHeartbeats 400000 in
theorem partsOf_any (c : Int) (w : World) :
    Calls Tryz.prog 134 #[.int .u8 c] w fun e w' => e = .returned (.int .i64 (Tp.ar c)) ∧ w' = w := by
  go_enter Tryz.func134, Tryz.ntmps134
  go_wp2
  all_goals
    go_ret
    refine ⟨ret_int ?_, rfl⟩
    unfold Tp.ar
    simp_all

end Go.Proofs.YthdlfeejeboboaaGreatDoor.T3
namespace Go.Proofs.YthdlfeejeboboaaGreatDoor.T3
set_option maxRecDepth 100000
open Go.RowKit

theorem str_len (s : ByteArray) : s.data.toList.length = s.size := by rw [Array.length_toList]; rfl
theorem str_B (s : ByteArray) (k : Nat) (h : k < s.size) : ((s[k]'h).toNat : Int) = Tp.B s.data.toList k := by
  unfold Tp.B
  have h' : k < s.data.toList.length := by simpa using h
  rw [List.getElem?_eq_getElem h']
  rfl

namespace Tp
theorem drop_B {l : List UInt8} {k : Nat} (h : k < l.length) : ∃ c : UInt8, l.drop k = c :: l.drop (k + 1) ∧ (c.toNat : Int) = B l k := by
  refine ⟨l[k], List.drop_eq_getElem_cons h, ?_⟩
  unfold B
  rw [List.getElem?_eq_getElem h]
  rfl
def Sofar (l : List UInt8) (k m : Nat) : Prop := beh l 1 = (k + (beh (l.drop k) m).1, (beh (l.drop k) m).2)
theorem Sofar.start (l : List UInt8) : Sofar l 0 1 := by unfold Sofar; simp
theorem Sofar.step {l : List UInt8} {k m : Nat} (h : Sofar l k (m + 1)) (hk : k < l.length) (ha : 0 ≤ ar (B l k)) : Sofar l (k + 1) (m + (ar (B l k)).toNat) := by
  unfold Sofar at *
  obtain ⟨c, hd, hc⟩ := drop_B hk
  rw [h, hd, beh_cons _ _ _ (by rw [hc]; exact ha), hc]
  simp; omega
theorem Sofar.zero {l : List UInt8} {k : Nat} (h : Sofar l k 0) : beh l 1 = (k, true) := by unfold Sofar at h; rw [h, beh_zero]; rfl
theorem Sofar.bad {l : List UInt8} {k m : Nat} (h : Sofar l k (m + 1)) (hk : k < l.length) (ha : ar (B l k) < 0) : beh l 1 = (k, false) := by
  unfold Sofar at h
  obtain ⟨c, hd, hc⟩ := drop_B hk
  rw [h, hd, beh, if_pos (by rw [hc]; exact ha)]
  rfl
theorem Sofar.early {l : List UInt8} {m : Nat} (h : Sofar l l.length (m + 1)) : beh l 1 = (l.length, false) := by
  unfold Sofar at h
  rw [h, List.drop_length]
  rfl
end Tp

theorem chk_ret {l : List UInt8} {a b : Nat} (h : Tp.chk l = (a, b)) {w w' : World} (hw : w' = w) {e : Ending} (he : e = .returned (.tuple #[.int .i64 (a : Int), .int .i64 (b : Int)])) : e = .returned (.tuple #[.int .i64 (Tp.chk l).1, .int .i64 (Tp.chk l).2]) ∧ w' = w := by
  rw [h]; exact ⟨he, hw⟩

set_option maxHeartbeats 1000000 in
theorem check_any (s : ByteArray) (w : World) :
    Calls Tryz.prog 75 #[.string s] w fun e w' => e = .returned (.tuple #[.int .i64 (Tp.chk s.data.toList).1, .int .i64 (Tp.chk s.data.toList).2]) ∧ w' = w := by
  have hsl := str_len s
  by_cases h64 : 64 < s.size
  · have HN : Aside (Tp.chk s.data.toList = (21, 64)) := Tp.chk_long (by omega)
    have h64' : (64 : Int) < (s.size : Int) := by omega
    clear hsl
    go_enter Tryz.func75, Tryz.ntmps75
    go_wp2_with fail
    go_ret2
    exact chk_ret HN.out rfl rfl
  · have h64' : decide ((64 : Int) < (s.size : Int)) = false := by simp; omega
    have hsz : s.size ≤ 64 := by omega
    have HL : Aside (s.data.toList.length = s.size) := hsl
    clear hsl h64
    go_enter Tryz.func75, Tryz.ntmps75
    go_wp2_with fail
    go_loopg [4, 12] s.size (fun g mv t wr => wr = w ∧ ∃ k m : Nat, k + g = s.size ∧ t = .int .i64 k ∧ mv = .int .i64 m ∧ m ≤ k + 1 ∧ Aside (Tp.Sofar s.data.toList k m))
    case atStart => exact ⟨rfl, 0, 1, by omega, rfl, rfl, by omega, Tp.Sofar.start _⟩
    case round =>
      obtain ⟨rfl, k, m, hkg, rfl, rfl, hmk, HS⟩ := hrel
      by_cases hk : k < s.size
      · have hk' : (k : Int) < (s.size : Int) := by omega
        have hBk := str_B s k hk
        have hk0 : (0 : Int) ≤ (k : Int) := by omega
        have had := Tp.ar_bd (Tp.B s.data.toList k)
        have hkl : k < s.data.toList.length := by rw [HL.out]; exact hk
        cases m with
        | zero =>
          have HN : Aside (Tp.chk s.data.toList = (20, k)) := by
            have h0 := HS.out.zero
            show _ = _
            rw [Tp.chk_bad (by rw [HL.out]; omega) (.inr (by rw [h0, HL.out]; show k ≠ _; omega)), h0]
          go_wp2_with (go_at_call 134; refine (partsOf_any _ _).mono ?_; rintro e w' ⟨rfl, rfl⟩)
          go_ret2
          exact chk_ret HN.out rfl rfl
        | succ m =>
          have hm0 : ((((m + 1 : Nat) : Int)) == 0) = false := by simp; omega
          by_cases ha : Tp.ar (Tp.B s.data.toList k) < 0
          · have HN : Aside (Tp.chk s.data.toList = (20, k)) := by
              have h0 := HS.out.bad hkl ha
              show _ = _
              rw [Tp.chk_bad (by rw [HL.out]; omega) (.inl (by rw [h0])), h0]
            go_wp2_with (go_at_call 134; refine (partsOf_any _ _).mono ?_; rintro e w' ⟨rfl, rfl⟩)
            go_ret2
            exact chk_ret HN.out rfl rfl
          · have ha' : 0 ≤ Tp.ar (Tp.B s.data.toList k) := by omega
            have HT : Aside (Tp.Sofar s.data.toList (k + 1) (m + (Tp.ar (Tp.B s.data.toList k)).toNat)) := HS.out.step hkl ha'
            have had' : decide (Tp.ar (Tp.B s.data.toList k) < 0) = false := by simpa using ha'
            go_wp2_with (go_at_call 134; refine (partsOf_any _ _).mono ?_; rintro e w' ⟨rfl, rfl⟩)
            go_roundg (gk - 1)
            case measure => omega
            case rel => exact ⟨rfl, k + 1, m + (Tp.ar (Tp.B s.data.toList k)).toNat, by omega, by go_num, by go_num, by omega, HT⟩
      · have hk' : decide ((k : Int) < (s.size : Int)) = false := by simp; omega
        have hkn : k = s.size := by omega
        cases m with
        | zero =>
          have HN : Aside (Tp.chk s.data.toList = (0, 0)) := by
            have h0 := HS.out.zero
            show _ = _
            rw [Tp.chk_good (by rw [HL.out]; omega) (by rw [h0, HL.out, hkn])]
          go_wp2_with fail
          go_ret2
          exact chk_ret HN.out rfl rfl
        | succ m =>
          have hm0 : (0 : Int) < (((m + 1 : Nat) : Int)) := by omega
          have HN : Aside (Tp.chk s.data.toList = (20, s.size)) := by
            have h1 : Tp.Sofar s.data.toList s.data.toList.length (m + 1) := by have := HS.out; rw [hkn, ← HL.out] at this; exact this
            have h0 := h1.early
            show _ = _
            rw [Tp.chk_bad (by rw [HL.out]; omega) (.inl (by rw [h0])), h0, HL.out]
          go_wp2_with fail
          go_ret2
          exact chk_ret HN.out rfl rfl
end Go.Proofs.YthdlfeejeboboaaGreatDoor.T3
