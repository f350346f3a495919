/- Plain functions on lists of bytes: what layer 1 of the document says a source's tokens are. Nothing of the program is named here. What the program's and the document's questions about one byte answer. The reader in memory: what its block holds, and what the program's passRemark, passBlanks and place do to it. What the program's inner takes: the letters, digits and _ that stand next. The program's map of words: what wordKinds makes, and what a look-up in it answers. What the program's word takes: a word of the language, or a name. What the program's textByte takes: what stands for one byte of a text. -/
import Derived.Below
import Derived.Lib.ParseIntB
import Derived.Test.YtohjfikjbeafiaaGreatDoorRows
import Derived.WalkKit
import Derived.WalkSpells
import Derived.WalkLawsBesides
import Derived.Deep.LoopGhost
import Derived.Deep.QuietTactic
import Derived.BigQuiet
import Derived.Laws.IdiomStrings
import Derived.Maps.Own
import Derived.Maps.OwnOps
import Derived.Maps.OwnSet
import Derived.Maps.Views
namespace Go.Proofs.YtohjfikjbeafiaaGreatDoor.T1
namespace Tx

/-- The byte at a place, as a number; 0 behind the end. -/
def B (bs : List UInt8) (k : Nat) : Int := ((bs[k]?.getD 0).toNat : Int)
theorem B_bd (bs : List UInt8) (k : Nat) : 0 ≤ B bs k ∧ B bs k ≤ 255 := by
  unfold B
  have := (bs[k]?.getD 0).toNat_lt
  omega

def blankB (c : Int) : Bool := c == 9 || c == 10 || c == 13 || c == 32
def letterB (c : Int) : Bool := decide (97 ≤ c) && decide (c ≤ 122) || decide (65 ≤ c) && decide (c ≤ 90)
def digitB (c : Int) : Bool := decide (48 ≤ c) && decide (c ≤ 57)
def innerB (c : Int) : Bool := letterB c || digitB c || c == 95
def seenB (c : Int) : Bool := decide (32 ≤ c) && decide (c ≤ 126)
def notTen (c : Int) : Bool := !(c == 10)

/-- From a place on, as far as the bytes are such. -/
def scan (p : Int → Bool) (bs : List UInt8) : Nat → Nat → Nat
  | 0, k => k
  | f + 1, k => if k < bs.length then (if p (B bs k) then scan p bs f (k + 1) else k) else k
def upTo (p : Int → Bool) (bs : List UInt8) (k : Nat) : Nat := scan p bs (bs.length - k) k

theorem upTo_in {p : Int → Bool} {bs : List UInt8} {k : Nat} (h : k < bs.length) (hp : p (B bs k) = true) : upTo p bs k = upTo p bs (k + 1) := by
  unfold upTo
  rw [show bs.length - k = (bs.length - (k + 1)) + 1 by omega]
  simp [scan, h, hp]
theorem upTo_out {p : Int → Bool} {bs : List UInt8} {k : Nat} (h : k < bs.length) (hp : p (B bs k) = false) : upTo p bs k = k := by
  unfold upTo
  rw [show bs.length - k = (bs.length - (k + 1)) + 1 by omega]
  simp [scan, h, hp]
theorem upTo_end {p : Int → Bool} {bs : List UInt8} {k : Nat} (h : bs.length ≤ k) : upTo p bs k = k := by
  unfold upTo
  rw [show bs.length - k = 0 by omega]
  rfl
theorem scan_le (p : Int → Bool) (bs : List UInt8) : ∀ (f k : Nat), k ≤ scan p bs f k
  | 0, k => Nat.le_refl _
  | f + 1, k => by
    unfold scan
    have := scan_le p bs f (k + 1)
    split
    · split <;> omega
    · omega
theorem scan_len (p : Int → Bool) (bs : List UInt8) : ∀ (f k : Nat), k ≤ bs.length → scan p bs f k ≤ bs.length
  | 0, k => fun h => h
  | f + 1, k => fun h => by
    unfold scan
    split
    · split
      · exact scan_len p bs f (k + 1) (by omega)
      · omega
    · omega
theorem upTo_le (p : Int → Bool) (bs : List UInt8) (k : Nat) : k ≤ upTo p bs k := scan_le _ _ _ _
theorem upTo_len (p : Int → Bool) {bs : List UInt8} {k : Nat} (h : k ≤ bs.length) : upTo p bs k ≤ bs.length := scan_len _ _ _ _ h
theorem scan_all (p : Int → Bool) (bs : List UInt8) : ∀ (f k j : Nat), k ≤ j → j < scan p bs f k → p (B bs j) = true ∧ j < bs.length
  | 0, k, j => fun h1 h2 => by simp [scan] at h2; omega
  | f + 1, k, j => fun h1 h2 => by
    unfold scan at h2
    split at h2
    · split at h2
      · by_cases e : j = k
        · subst e; exact ⟨by assumption, by assumption⟩
        · exact scan_all p bs f (k + 1) j (by omega) h2
      · omega
    · omega
theorem upTo_all (p : Int → Bool) (bs : List UInt8) (k j : Nat) (h1 : k ≤ j) (h2 : j < upTo p bs k) : p (B bs j) = true ∧ j < bs.length := scan_all p bs _ k j h1 h2
theorem scan_stop (p : Int → Bool) (bs : List UInt8) : ∀ (f k : Nat), bs.length - k ≤ f → scan p bs f k < bs.length → p (B bs (scan p bs f k)) = false
  | 0, k => fun h1 h2 => by simp [scan] at h2; omega
  | f + 1, k => fun h1 h2 => by
    unfold scan at h2 ⊢
    by_cases hk : k < bs.length
    · rw [if_pos hk] at h2 ⊢
      by_cases hp : p (B bs k) = true
      · rw [if_pos hp] at h2 ⊢
        exact scan_stop p bs f (k + 1) (by omega) h2
      · rw [if_neg hp] at h2 ⊢
        simpa using hp
    · rw [if_neg hk] at h2; omega
theorem upTo_stop (p : Int → Bool) (bs : List UInt8) (k : Nat) (h : upTo p bs k < bs.length) : p (B bs (upTo p bs k)) = false := scan_stop p bs _ k (Nat.le_refl _) h

/-- How many bytes 10 lie ahead of a place, and where its line begins. -/
def lnTo (bs : List UInt8) : Nat → Nat
  | 0 => 0
  | k + 1 => if B bs k == 10 then lnTo bs k + 1 else lnTo bs k
def stTo (bs : List UInt8) : Nat → Nat
  | 0 => 0
  | k + 1 => if B bs k == 10 then k + 1 else stTo bs k
theorem stTo_le (bs : List UInt8) : ∀ k, stTo bs k ≤ k
  | 0 => Nat.le_refl _
  | k + 1 => by
    have := stTo_le bs k
    unfold stTo
    split <;> omega
theorem lnTo_le (bs : List UInt8) : ∀ k, lnTo bs k ≤ k
  | 0 => Nat.le_refl _
  | k + 1 => by
    have := lnTo_le bs k
    unfold lnTo
    split <;> omega
/-- Where no byte 10 stands between, line and beginning stay. -/
theorem lnst_same (bs : List UInt8) (i : Nat) : ∀ d, (∀ j, i ≤ j → j < i + d → (B bs j == 10) = false) → lnTo bs (i + d) = lnTo bs i ∧ stTo bs (i + d) = stTo bs i
  | 0, _ => ⟨rfl, rfl⟩
  | d + 1, h => by
    have ih := lnst_same bs i d (fun j a b => h j a (by omega))
    have hh := h (i + d) (by omega) (by omega)
    refine ⟨?_, ?_⟩
    · show (if B bs (i + d) == 10 then lnTo bs (i + d) + 1 else lnTo bs (i + d)) = _
      rw [hh]; exact ih.1
    · show (if B bs (i + d) == 10 then (i + d) + 1 else stTo bs (i + d)) = _
      rw [hh]; exact ih.2

/-- The bytes from one place up to another. -/
def sub (bs : List UInt8) (i j : Nat) : List UInt8 := (bs.drop i).take (j - i)
theorem sub_length {bs : List UInt8} {i j : Nat} (h1 : i ≤ j) (h2 : j ≤ bs.length) : (sub bs i j).length = j - i := by
  unfold sub; simp; omega
theorem sub_get {bs : List UInt8} {i j d : Nat} (hd : d < (sub bs i j).length) : (((sub bs i j)[d]'hd).toNat : Int) = B bs (i + d) := by
  have hd' : d < j - i ∧ i + d < bs.length := by unfold sub at hd; simp at hd; omega
  unfold B
  rw [List.getElem?_eq_getElem hd'.2]
  simp [sub]

/-- The words of the language, as bytes. -/
def words : List (List UInt8) := [[109, 111, 100, 117, 108, 101], [105, 109, 112, 111, 114, 116], [101, 120, 112, 111, 114, 116], [108, 101, 116], [114, 101, 99], [105, 110], [105, 102], [116, 104, 101, 110], [101, 108, 115, 101], [102, 110], [116, 114, 117, 101], [102, 97, 108, 115, 101], [105, 110, 116], [98, 111, 111, 108], [116, 101, 120, 116], [98, 111, 120], [102, 105, 114, 115, 116], [115, 101, 99, 111, 110, 100], [104, 101, 97, 100], [116, 97, 105, 108], [101, 109, 112, 116, 121], [99, 111, 110, 115], [115, 105, 122, 101]]
def wordB (l : List UInt8) : Bool := words.contains l
theorem wordB_short {l : List UInt8} (h : wordB l = true) : l.length ≤ 6 := by
  unfold wordB words at h
  simp at h
  rcases h with rfl | rfl | rfl | rfl | rfl | rfl | rfl | rfl | rfl | rfl | rfl | rfl | rfl | rfl | rfl | rfl | rfl | rfl | rfl | rfl | rfl | rfl | rfl <;> decide

/-- What stands for the next byte of a text: the byte, whether it may be, and where one goes on. -/
def txb (bs : List UInt8) (k : Nat) : Int × Bool × Nat :=
  if B bs k == 92 then
    if k + 1 < bs.length then (if B bs (k + 1) == 110 then (10, true, k + 2) else (B bs (k + 1), B bs (k + 1) == 34 || B bs (k + 1) == 92, k + 2)) else (0, false, k + 1)
  else (B bs k, seenB (B bs k), k + 1)

theorem txb_bd (bs : List UInt8) (k : Nat) : 0 ≤ (txb bs k).1 ∧ (txb bs k).1 ≤ 255 := by
  unfold txb
  have h1 := B_bd bs k
  have h2 := B_bd bs (k + 1)
  split
  · split
    · split
      · simp
      · exact h2
    · simp
  · exact h1
theorem txb_lt (bs : List UInt8) (k : Nat) (hk : k < bs.length) : k < (txb bs k).2.2 ∧ (txb bs k).2.2 ≤ bs.length := by
  unfold txb
  split
  · split
    · split <;> (simp; omega)
    · simp; omega
  · simp; omega

/-- A byte out of a number. -/
def byteOf (c : Int) : UInt8 := UInt8.ofNat c.toNat
theorem byteOf_toNat {c : Int} (h : 0 ≤ c ∧ c ≤ 255) : ((byteOf c).toNat : Int) = c := by
  unfold byteOf
  have : c.toNat < 256 := by omega
  rw [UInt8.toNat_ofNat_of_lt' (by simpa using this)]
  omega

/-- A text from behind its first mark on: what it stands for, and where it ends; at most 64 bytes. -/
def txt (bs : List UInt8) : Nat → Nat → List UInt8 → Option (List UInt8 × Nat)
  | 0, _, _ => none
  | f + 1, k, acc =>
    if k < bs.length then
      if B bs k == 34 then some (acc, k + 1)
      else if (txb bs k).2.1 && !(acc.length == 64) then txt bs f (txb bs k).2.2 (acc ++ [byteOf (txb bs k).1]) else none
    else none
def textAt (bs : List UInt8) (k : Nat) : Option (List UInt8 × Nat) := txt bs (bs.length + 1) (k + 1) []

/-- What a text says as a number of 64 bits, if it says one. -/
def numOf (l : List UInt8) : Option Int := match Lib.parseIntB 64 l with | .ok v => some v | _ => none

/-- A token, without its place. -/
structure Tk where
  kind : Int
  n : Int
  s : List UInt8

/-- The token that begins at a place, and where it ends; or why there is none: by the first byte. -/
def oneWord (bs : List UInt8) (k : Nat) : Except Int (Tk × Nat) :=
  if wordB (sub bs k (upTo innerB bs k)) then .ok (⟨1, 0, sub bs k (upTo innerB bs k)⟩, upTo innerB bs k)
  else if 32 < (sub bs k (upTo innerB bs k)).length then .error 12 else .ok (⟨2, 0, sub bs k (upTo innerB bs k)⟩, upTo innerB bs k)
def oneNum (bs : List UInt8) (k : Nat) : Except Int (Tk × Nat) :=
  if (B bs k == 48) = true ∧ k + 1 < upTo innerB bs k then .error 13
  else match numOf (sub bs k (upTo innerB bs k)) with
    | some v => .ok (⟨3, v, []⟩, upTo innerB bs k)
    | none => .error 13
def oneText (bs : List UInt8) (k : Nat) : Except Int (Tk × Nat) :=
  match textAt bs k with
  | some (s, j) => .ok (⟨4, 0, s⟩, j)
  | none => .error 14
theorem oneText_some {bs : List UInt8} {k : Nat} {s : List UInt8} {j : Nat} (h : textAt bs k = some (s, j)) : oneText bs k = .ok (⟨4, 0, s⟩, j) := by unfold oneText; rw [h]
theorem oneText_none {bs : List UInt8} {k : Nat} (h : textAt bs k = none) : oneText bs k = .error 14 := by unfold oneText; rw [h]
def longs : List (List UInt8) := [[45, 62], [61, 62], [58, 61], [61, 61], [43, 43]]
def longB (l : List UInt8) : Bool := longs.contains l
def shorts : List UInt8 := [40, 41, 91, 93, 123, 125, 44, 58, 59, 46, 61, 60, 43, 45, 42, 63, 33]
def shortB (c : Int) : Bool := shorts.contains (byteOf c)
def oneMark (bs : List UInt8) (k : Nat) : Except Int (Tk × Nat) :=
  if k + 2 ≤ bs.length ∧ longB (sub bs k (k + 2)) = true then .ok (⟨5, 0, sub bs k (k + 2)⟩, k + 2)
  else if shortB (B bs k) then .ok (⟨5, 0, sub bs k (k + 1)⟩, k + 1) else .error 11
def one (bs : List UInt8) (k : Nat) : Except Int (Tk × Nat) :=
  if letterB (B bs k) then oneWord bs k
  else if digitB (B bs k) then oneNum bs k
  else if B bs k == 34 then oneText bs k
  else oneMark bs k

end Tx
end Go.Proofs.YtohjfikjbeafiaaGreatDoor.T1
namespace Go.Proofs.YtohjfikjbeafiaaGreatDoor.T1
open Go.RowKit

theorem ret_bool {a b : Bool} (h : a = b) : Ending.returned (.bool a) = .returned (.bool b) := by rw [h]

set_option maxHeartbeats 400000 in
theorem isBlank_any (c : Int) (w : World) :
    Calls Tryz.prog 122 #[.int .u8 c] w fun e w' => e = .returned (.bool (Tx.blankB c)) ∧ w' = w := by
  go_enter Tryz.func122, Tryz.ntmps122
  go_wp2
  all_goals
    go_ret
    refine ⟨ret_bool ?_, rfl⟩
    unfold Tx.blankB
    simp_all

set_option maxHeartbeats 400000 in
theorem isLetter_any (c : Int) (w : World) :
    Calls Tryz.prog 162 #[.int .u8 c] w fun e w' => e = .returned (.bool (Tx.letterB c)) ∧ w' = w := by
  go_enter Tryz.func162, Tryz.ntmps162
  go_wp2
  all_goals
    go_ret
    refine ⟨ret_bool ?_, rfl⟩
    unfold Tx.letterB
    rw [Bool.eq_iff_iff]; simp; omega

set_option maxHeartbeats 400000 in
theorem isDigit_any (c : Int) (w : World) :
    Calls Tryz.prog 166 #[.int .u8 c] w fun e w' => e = .returned (.bool (Tx.digitB c)) ∧ w' = w := by
  go_enter Tryz.func166, Tryz.ntmps166
  go_wp2
  all_goals
    go_ret
    refine ⟨ret_bool ?_, rfl⟩
    unfold Tx.digitB
    rw [Bool.eq_iff_iff]; simp; omega

set_option maxHeartbeats 400000 in
theorem isSeen_any (c : Int) (w : World) :
    Calls Tryz.prog 160 #[.int .u8 c] w fun e w' => e = .returned (.bool (Tx.seenB c)) ∧ w' = w := by
  go_enter Tryz.func160, Tryz.ntmps160
  go_wp2
  all_goals
    go_ret
    refine ⟨ret_bool ?_, rfl⟩
    unfold Tx.seenB
    rw [Bool.eq_iff_iff]; simp; omega

set_option maxHeartbeats 400000 in
theorem isInner_any (c : Int) (w : World) :
    Calls Tryz.prog 163 #[.int .u8 c] w fun e w' => e = .returned (.bool (Tx.innerB c)) ∧ w' = w := by
  go_enter Tryz.func163, Tryz.ntmps163
  go_wp2_with (first | (go_at_call 162; refine (isLetter_any _ _).mono ?_; rintro e w' ⟨rfl, rfl⟩) | (go_at_call 166; refine (isDigit_any _ _).mono ?_; rintro e w' ⟨rfl, rfl⟩))
  all_goals
    go_ret
    refine ⟨ret_bool ?_, rfl⟩
    unfold Tx.innerB
    simp_all

set_option maxHeartbeats 400000 in
theorem letter_any (c : Int) (w : World) :
    Calls Tryz.prog 107 #[.int .u8 c] w fun e w' => e = .returned (.bool (Tx.letterB c)) ∧ w' = w := by
  go_enter Tryz.func107, Tryz.ntmps107
  go_wp2
  all_goals
    go_ret
    refine ⟨ret_bool ?_, rfl⟩
    unfold Tx.letterB
    rw [Bool.eq_iff_iff]; simp; omega

set_option maxHeartbeats 400000 in
theorem digit_any (c : Int) (w : World) :
    Calls Tryz.prog 110 #[.int .u8 c] w fun e w' => e = .returned (.bool (Tx.digitB c)) ∧ w' = w := by
  go_enter Tryz.func110, Tryz.ntmps110
  go_wp2
  all_goals
    go_ret
    refine ⟨ret_bool ?_, rfl⟩
    unfold Tx.digitB
    rw [Bool.eq_iff_iff]; simp; omega

end Go.Proofs.YtohjfikjbeafiaaGreatDoor.T1
namespace Go.Proofs.YtohjfikjbeafiaaGreatDoor.T1
open Go.RowKit

/-- The block rb holds a reader: the source, the words, how far it is, how many lines lie behind it, where its line begins. -/
def Rd (w : World) (rb : Nat) (sv m : Value) (at_ ln st : Nat) : Prop :=
  w.heap[rb]? = some (.cells #[sv, m, .int .i64 at_, .int .i64 ln, .int .i64 st] 192 (0, 0))

theorem Rd.c {w : World} {rb : Nat} {sv m : Value} {at_ ln st : Nat} (h : Rd w rb sv m at_ ln st) :
    w.cell? ⟨rb, 0, none⟩ = some sv ∧ w.cell? ⟨rb, 1, none⟩ = some m ∧ w.cell? ⟨rb, 2, none⟩ = some (.int .i64 at_) ∧ w.cell? ⟨rb, 3, none⟩ = some (.int .i64 ln) ∧ w.cell? ⟨rb, 4, none⟩ = some (.int .i64 st) := by
  unfold Rd at h
  simp [World.cell?, h]
theorem Rd.f {w : World} {rb : Nat} {sv m : Value} {at_ ln st : Nat} (h : Rd w rb sv m at_ ln st) (o : Nat) : w.frozen? ⟨rb, o, none⟩ = false := by
  unfold Rd at h
  simp [World.frozen?, h]
theorem Rd.lt {w : World} {rb : Nat} {sv m : Value} {at_ ln st : Nat} (h : Rd w rb sv m at_ ln st) : rb < w.heap.size := by
  unfold Rd at h
  exact (Array.getElem?_eq_some_iff.1 h).1
theorem Rd.drewN {w : World} {rb : Nat} {sv m : Value} {at_ ln st : Nat} (h : Rd w rb sv m at_ ln st) (n : Nat) : Rd (w.drewN n) rb sv m at_ ln st := h
theorem Rd.setAt {w : World} {rb : Nat} {sv m : Value} {at_ ln st : Nat} (h : Rd w rb sv m at_ ln st) {x : Int} (k : Nat) (hx : x = k) : Rd (w.setCell ⟨rb, 2, none⟩ (.int .i64 x)) rb sv m k ln st := by
  subst hx
  unfold Rd at *
  simp [World.setCell, Array.getElem?_modify, h]
theorem Rd.setLn {w : World} {rb : Nat} {sv m : Value} {at_ ln st : Nat} (h : Rd w rb sv m at_ ln st) {x : Int} (k : Nat) (hx : x = k) : Rd (w.setCell ⟨rb, 3, none⟩ (.int .i64 x)) rb sv m at_ k st := by
  subst hx
  unfold Rd at *
  simp [World.setCell, Array.getElem?_modify, h]
theorem Rd.setSt {w : World} {rb : Nat} {sv m : Value} {at_ ln st : Nat} (h : Rd w rb sv m at_ ln st) {x : Int} (k : Nat) (hx : x = k) : Rd (w.setCell ⟨rb, 4, none⟩ (.int .i64 x)) rb sv m at_ ln k := by
  subst hx
  unfold Rd at *
  simp [World.setCell, Array.getElem?_modify, h]

theorem grownBy_refl (w : World) (r : Option Nat) : w.grownBy w r := ⟨rfl, rfl, rfl, Nat.le_refl _, fun _ _ _ => rfl⟩
theorem grownBy_drewN {w w' : World} {r : Option Nat} (h : w.grownBy w' r) (n : Nat) : w.grownBy (w'.drewN n) r := ⟨h.os, h.tape, h.output, h.size, h.block⟩
theorem grownBy_trans {a b c : World} {r : Option Nat} (h : a.grownBy b r) (k : b.grownBy c r) : a.grownBy c r :=
  ⟨k.os.trans h.os, k.tape.trans h.tape, k.output.trans h.output, Nat.le_trans h.size k.size, fun i hi hne => (k.block i (Nat.lt_of_lt_of_le hi h.size) hne).trans (h.block i hi hne)⟩
theorem grownBy_set {a b : World} {rb o : Nat} (h : a.grownBy b (some rb)) (u : Value) : a.grownBy (b.setCell ⟨rb, o, none⟩ u) (some rb) :=
  grownBy_trans h ⟨rfl, rfl, rfl, by simp [World.setCell], fun k hk hne => Below.heap_setCell _ _ _ _ (by intro e; exact hne (by rw [e]))⟩
theorem grownBy_cell {a b : World} {rb : Nat} (h : a.grownBy b (some rb)) {p : Nat} {o : Nat} {v : Value} (hne : p ≠ rb) (hc : a.cell? ⟨p, o, none⟩ = some v) : b.cell? ⟨p, o, none⟩ = some v :=
  h.cell hc (by simpa using hne)

set_option maxHeartbeats 400000 in
theorem passRemark_any (w : World) (rb b off cap : Nat) (bs : List UInt8) (m : Value) (k ln st : Nat) (hR : Rd w rb (.slice (some ⟨b, off, none⟩) bs.length cap) m k ln st) (hk : k ≤ bs.length) (hl : bs.length ≤ 65536) (hne : b ≠ rb)
    (hc : ∀ j, j < bs.length → w.cell? ⟨b, off + j, none⟩ = some (.int .u8 (Tx.B bs j))) :
    Calls Tryz.prog 121 #[.pointer (some ⟨rb, 0, none⟩)] w fun e w' => e = .returned (.tuple #[]) ∧ Rd w' rb (.slice (some ⟨b, off, none⟩) bs.length cap) m (Tx.upTo Tx.notTen bs k) ln st ∧ w.grownBy w' (some rb) := by
  go_enter Tryz.func121, Tryz.ntmps121
  go_wp2
  go_loopg [] (bs.length - k) (fun g wr => ∃ j : Nat, j + g = bs.length ∧ Rd wr rb (.slice (some ⟨b, off, none⟩) bs.length cap) m j ln st ∧ w.grownBy wr (some rb) ∧ Aside (Tx.upTo Tx.notTen bs j = Tx.upTo Tx.notTen bs k))
  case atStart => exact ⟨k, by omega, hR, grownBy_refl _ _, rfl⟩
  case round =>
    obtain ⟨j, hjg, hRj, hgj, HA⟩ := hrel
    obtain ⟨c0, -, c2, -, -⟩ := hRj.c
    have f2 := hRj.f 2
    have hj0 : (0 : Int) ≤ (j : Int) := by omega
    by_cases hlt : j < bs.length
    · have cx := grownBy_cell hgj hne (hc j hlt)
      have hlt' : (j : Int) < (bs.length : Int) := by omega
      by_cases h10 : Tx.B bs j = 10
      · have ho := Tx.upTo_out (p := Tx.notTen) hlt (by simp [Tx.notTen, h10])
        have e10 : (Tx.B bs j != 10) = false := by simp [h10]
        have HO : Aside (Tx.upTo Tx.notTen bs j = j) := ho
        clear h10 ho hc
        go_wp2_with fail
        go_quiet (fail)
        go_wp2
        go_end0
        rw [← HA.out, HO.out]
        exact ⟨rfl, hRj.drewN _, grownBy_drewN hgj _⟩
      · have ho := Tx.upTo_in (p := Tx.notTen) hlt (by simp [Tx.notTen, h10])
        have e10 : (Tx.B bs j != 10) = true := by simp [h10]
        have HO : Aside (Tx.upTo Tx.notTen bs j = Tx.upTo Tx.notTen bs (j + 1)) := ho
        clear h10 ho hc
        go_wp2_with fail
        go_quiet (fail)
        go_wp2
        go_roundg (gk - 1)
        case measure => omega
        case rel => exact ⟨j + 1, by omega, Rd.setAt hRj (j + 1) (by omega), grownBy_set (grownBy_drewN hgj _) _, (HO.out.symm.trans HA.out)⟩
    · have hd : decide ((j : Int) < (bs.length : Int)) = false := by simp; omega
      go_wp2_with fail
      go_quiet (fail)
      go_wp2
      go_end0
      rw [← HA.out, Tx.upTo_end (by omega)]
      exact ⟨rfl, hRj.drewN _, grownBy_drewN hgj _⟩

set_option maxHeartbeats 1000000 in
theorem passBlanks_any (w : World) (rb b off cap : Nat) (bs : List UInt8) (m : Value) (k : Nat) (hR : Rd w rb (.slice (some ⟨b, off, none⟩) bs.length cap) m k (Tx.lnTo bs k) (Tx.stTo bs k)) (hk : k ≤ bs.length) (hl : bs.length ≤ 65536) (hne : b ≠ rb)
    (hc : ∀ j, j < bs.length → w.cell? ⟨b, off + j, none⟩ = some (.int .u8 (Tx.B bs j))) :
    Calls Tryz.prog 123 #[.pointer (some ⟨rb, 0, none⟩)] w fun e w' => e = .returned (.tuple #[]) ∧ Rd w' rb (.slice (some ⟨b, off, none⟩) bs.length cap) m (Tx.upTo Tx.blankB bs k) (Tx.lnTo bs (Tx.upTo Tx.blankB bs k)) (Tx.stTo bs (Tx.upTo Tx.blankB bs k)) ∧ w.grownBy w' (some rb) := by
  go_enter Tryz.func123, Tryz.ntmps123
  go_wp2
  go_loopg [] (bs.length - k) (fun g wr => ∃ j : Nat, j + g = bs.length ∧ Rd wr rb (.slice (some ⟨b, off, none⟩) bs.length cap) m j (Tx.lnTo bs j) (Tx.stTo bs j) ∧ w.grownBy wr (some rb) ∧ Aside (Tx.upTo Tx.blankB bs j = Tx.upTo Tx.blankB bs k))
  case atStart => exact ⟨k, by omega, hR, grownBy_refl _ _, rfl⟩
  case round =>
    obtain ⟨j, hjg, hRj, hgj, HA⟩ := hrel
    obtain ⟨c0, -, c2, c3, -⟩ := hRj.c
    have f2 := hRj.f 2
    have f3 := hRj.f 3
    have f4 := hRj.f 4
    have hj0 : (0 : Int) ≤ (j : Int) := by omega
    by_cases hlt : j < bs.length
    · have cx := grownBy_cell hgj hne (hc j hlt)
      have hlt' : (j : Int) < (bs.length : Int) := by omega
      by_cases hb : Tx.blankB (Tx.B bs j) = true
      · have ho := Tx.upTo_in (p := Tx.blankB) hlt hb
        have HO : Aside (Tx.upTo Tx.blankB bs j = Tx.upTo Tx.blankB bs (j + 1)) := ho
        have hln := Tx.lnTo_le bs j
        clear ho hc
        by_cases h10 : (Tx.B bs j == 10) = true
        · have HL : Aside (Tx.lnTo bs (j + 1) = Tx.lnTo bs j + 1 ∧ Tx.stTo bs (j + 1) = j + 1) := ⟨by simp [Tx.lnTo, h10], by simp [Tx.stTo, h10]⟩
          go_wp2_with fail
          go_quiet ((go_at_call 122; exact Calls.quiet_of_same (isBlank_any _ _)))
          go_wp2_with fail
          generalize hw1 : (wr.drewN nq).setCell { block := rb, off := 2 } (Value.int IntKind.i64 (↑j + 1)) = w1
          have hR1 : Rd w1 rb (.slice (some ⟨b, off, none⟩) bs.length cap) m (j + 1) (Tx.lnTo bs j) (Tx.stTo bs j) := by rw [← hw1]; exact Rd.setAt hRj (j + 1) (by omega)
          have hg1 : w.grownBy w1 (some rb) := by rw [← hw1]; exact grownBy_set (grownBy_drewN hgj _) _
          have cx1 : w1.cell? ⟨b, off + j, none⟩ = some (.int .u8 (Tx.B bs j)) := by rw [← hw1]; exact grownBy_cell (grownBy_set (grownBy_drewN (grownBy_refl wr _) _) _) hne cx
          clear hw1 c0 c2 c3 cx f2 f3 f4
          obtain ⟨c0, -, c2, c3, c4⟩ := hR1.c
          have f3 := hR1.f 3
          have f4 := hR1.f 4
          go_quiet (fail)
          go_wp2
          go_roundg (gk - 1)
          case measure => omega
          case rel => exact ⟨j + 1, by omega, by rw [HL.out.1, HL.out.2]; exact Rd.setSt (Rd.setLn hR1 _ (by omega)) _ (by omega), grownBy_set (grownBy_set (grownBy_drewN hg1 _) _) _, (HO.out.symm.trans HA.out)⟩
        · have h10' : (Tx.B bs j == 10) = false := by simpa using h10
          have HL : Aside (Tx.lnTo bs (j + 1) = Tx.lnTo bs j ∧ Tx.stTo bs (j + 1) = Tx.stTo bs j) := ⟨by simp [Tx.lnTo, h10'], by simp [Tx.stTo, h10']⟩
          clear h10
          go_wp2_with fail
          go_quiet ((go_at_call 122; exact Calls.quiet_of_same (isBlank_any _ _)))
          go_wp2_with fail
          generalize hw1 : (wr.drewN nq).setCell { block := rb, off := 2 } (Value.int IntKind.i64 (↑j + 1)) = w1
          have hR1 : Rd w1 rb (.slice (some ⟨b, off, none⟩) bs.length cap) m (j + 1) (Tx.lnTo bs j) (Tx.stTo bs j) := by rw [← hw1]; exact Rd.setAt hRj (j + 1) (by omega)
          have hg1 : w.grownBy w1 (some rb) := by rw [← hw1]; exact grownBy_set (grownBy_drewN hgj _) _
          have cx1 : w1.cell? ⟨b, off + j, none⟩ = some (.int .u8 (Tx.B bs j)) := by rw [← hw1]; exact grownBy_cell (grownBy_set (grownBy_drewN (grownBy_refl wr _) _) _) hne cx
          clear hw1 c0 c2 c3 cx f2 f3 f4
          obtain ⟨c0, -, c2, c3, c4⟩ := hR1.c
          go_quiet (fail)
          go_wp2
          go_roundg (gk - 1)
          case measure => omega
          case rel => exact ⟨j + 1, by omega, by rw [HL.out.1, HL.out.2]; exact hR1.drewN _, grownBy_drewN hg1 _, (HO.out.symm.trans HA.out)⟩
      · have hb' : Tx.blankB (Tx.B bs j) = false := by simpa using hb
        have ho := Tx.upTo_out (p := Tx.blankB) hlt hb'
        have HO : Aside (Tx.upTo Tx.blankB bs j = j) := ho
        clear ho hc hb
        go_wp2_with fail
        go_quiet ((go_at_call 122; exact Calls.quiet_of_same (isBlank_any _ _)))
        go_wp2
        go_end0
        rw [← HA.out, HO.out]
        exact ⟨rfl, hRj.drewN _, grownBy_drewN hgj _⟩
    · have hd : decide ((j : Int) < (bs.length : Int)) = false := by simp; omega
      go_wp2_with fail
      go_quiet ((go_at_call 122; exact Calls.quiet_of_same (isBlank_any _ _)))
      go_wp2
      go_end0
      rw [← HA.out, Tx.upTo_end (by omega)]
      exact ⟨rfl, hRj.drewN _, grownBy_drewN hgj _⟩

theorem Rd.kept {w w' : World} {rb : Nat} {sv m : Value} {at_ ln st : Nat} (h : Rd w rb sv m at_ ln st) (hg : w.grownBy w' none) : Rd w' rb sv m at_ ln st := by
  have := hg.block rb h.lt (by simp)
  unfold Rd at *
  rw [this, h]
theorem grownBy_none {w w' : World} {r : Option Nat} (hg : w.grownBy w' none) : w.grownBy w' r := ⟨hg.os, hg.tape, hg.output, hg.size, fun k hk _ => hg.block k hk (by simp)⟩

end Go.Proofs.YtohjfikjbeafiaaGreatDoor.T1
namespace Go.Proofs.YtohjfikjbeafiaaGreatDoor.T1
open Go.RowKit

/-- 'string(src[i:j])' of the bytes bs. -/
theorem conv_sub (W : World) (b off cap : Nat) (bs : List UInt8) (i j : Nat) (h1 : i ≤ j) (h2 : j ≤ bs.length)
    (hc : ∀ d, d < bs.length → W.cell? ⟨b, off + d, none⟩ = some (.int .u8 (Tx.B bs d))) :
    (convert 22 9 (.slice (some ⟨b, off + i, none⟩) (j - i) cap)).run Tryz.prog W = .ok (.string ⟨(Tx.sub bs i j).toArray⟩) W := by
  have hl := Tx.sub_length (bs := bs) h1 h2
  have := run_convert_bytes_back (P := Tryz.prog) W 22 9 5 ⟨b, off + i, none⟩ cap (Tx.sub bs i j) (by kernel_rfl) (by kernel_rfl) (by kernel_rfl) (fun d hd => by
    rw [Tx.sub_get hd]
    have := hc (i + d) (by omega)
    by_cases h0 : d = 0
    · subst h0; simpa [Addr.add] using this
    · simpa [Addr.add, Nat.add_assoc, h0] using this)
  rwa [hl] at this

set_option maxHeartbeats 1000000 in
theorem inner_any (w : World) (rb b off cap : Nat) (bs : List UInt8) (m : Value) (k ln st : Nat) (hR : Rd w rb (.slice (some ⟨b, off, none⟩) bs.length cap) m k ln st) (hk : k < bs.length) (hl : bs.length ≤ 65536) (hcap : bs.length ≤ cap) (hne : b ≠ rb)
    (hc : ∀ j, j < bs.length → w.cell? ⟨b, off + j, none⟩ = some (.int .u8 (Tx.B bs j))) :
    Calls Tryz.prog 186 #[.pointer (some ⟨rb, 0, none⟩)] w fun e w' => e = .returned (.string ⟨(Tx.sub bs k (Tx.upTo Tx.innerB bs k)).toArray⟩) ∧ Rd w' rb (.slice (some ⟨b, off, none⟩) bs.length cap) m (Tx.upTo Tx.innerB bs k) ln st ∧ w.grownBy w' (some rb) := by
  obtain ⟨c0, -, c2, -, -⟩ := hR.c
  go_enter Tryz.func186, Tryz.ntmps186
  go_wp2
  clear c0 c2
  go_loopg [] (bs.length - k) (fun g wr => ∃ j : Nat, k ≤ j ∧ j + g = bs.length ∧ Rd wr rb (.slice (some ⟨b, off, none⟩) bs.length cap) m j ln st ∧ w.grownBy wr (some rb) ∧ Aside (Tx.upTo Tx.innerB bs j = Tx.upTo Tx.innerB bs k))
  case atStart => exact ⟨k, Nat.le_refl _, by omega, hR, grownBy_refl _ _, rfl⟩
  case round =>
    obtain ⟨j, hkj, hjg, hRj, hgj, HA⟩ := hrel
    obtain ⟨c0, -, c2, -, -⟩ := hRj.c
    have f2 := hRj.f 2
    have hj0 : (0 : Int) ≤ (j : Int) := by omega
    by_cases hlt : j < bs.length
    · have cx := grownBy_cell hgj hne (hc j hlt)
      have hlt' : (j : Int) < (bs.length : Int) := by omega
      by_cases hb : Tx.innerB (Tx.B bs j) = true
      · have HO : Aside (Tx.upTo Tx.innerB bs j = Tx.upTo Tx.innerB bs (j + 1)) := Tx.upTo_in (p := Tx.innerB) hlt hb
        clear hc
        go_wp2_with fail
        go_quiet ((go_at_call 163; exact Calls.quiet_of_same (isInner_any _ _)))
        go_wp2
        go_roundg (gk - 1)
        case measure => omega
        case rel => exact ⟨j + 1, by omega, by omega, Rd.setAt hRj (j + 1) (by omega), grownBy_set (grownBy_drewN hgj _) _, (HO.out.symm.trans HA.out)⟩
      · have hb' : Tx.innerB (Tx.B bs j) = false := by simpa using hb
        have HO : Aside (Tx.upTo Tx.innerB bs j = j) := Tx.upTo_out (p := Tx.innerB) hlt hb'
        clear hb
        go_wp2_with fail
        go_quiet ((go_at_call 163; exact Calls.quiet_of_same (isInner_any _ _)))
        go_wp2_with fail
        have hcv : ∀ x, (convert 22 9 (.slice (some ⟨b, off + k, none⟩) (j - k) (cap - k))).run Tryz.prog (wr.drewN x) = .ok (.string ⟨(Tx.sub bs k j).toArray⟩) (wr.drewN x) :=
          fun x => conv_sub _ b off (cap - k) bs k j hkj (by omega) (fun d hd => grownBy_cell hgj hne (hc d hd))
        have hck : ¬ cap = k := by omega
        have k1 : (k : Int) ≤ (j : Int) := by omega
        have k2 : (j : Int) ≤ (cap : Int) := by omega
        have k0 : (0 : Int) ≤ (k : Int) := by omega
        clear hc
        go_quiet (fail)
        go_wp2
        go_ret
        rw [← HA.out, HO.out]
        exact ⟨rfl, (hRj.drewN _).drewN _, grownBy_drewN (grownBy_drewN hgj _) _⟩
    · have hd : decide ((j : Int) < (bs.length : Int)) = false := by simp; omega
      go_wp2_with fail
      go_quiet ((go_at_call 163; exact Calls.quiet_of_same (isInner_any _ _)))
      go_wp2_with fail
      have hcv : ∀ x, (convert 22 9 (.slice (some ⟨b, off + k, none⟩) (j - k) (cap - k))).run Tryz.prog (wr.drewN x) = .ok (.string ⟨(Tx.sub bs k j).toArray⟩) (wr.drewN x) :=
        fun x => conv_sub _ b off (cap - k) bs k j hkj (by omega) (fun d hd => grownBy_cell hgj hne (hc d hd))
      have hck : ¬ cap = k := by omega
      have k1 : (k : Int) ≤ (j : Int) := by omega
      have k2 : (j : Int) ≤ (cap : Int) := by omega
      have k0 : (0 : Int) ≤ (k : Int) := by omega
      clear hc hd
      go_quiet (fail)
      go_wp2
      go_ret
      rw [← HA.out, Tx.upTo_end (by omega)]
      exact ⟨rfl, (hRj.drewN _).drewN _, grownBy_drewN (grownBy_drewN hgj _) _⟩
end Go.Proofs.YtohjfikjbeafiaaGreatDoor.T1
namespace Go.Proofs.YtohjfikjbeafiaaGreatDoor.T1
open Go.RowKit Go.Maps
open Go.WideMaps Go.WideElems

/-- 'insert' (a map's literal) at the operation: as a store into the call's own map. -/
theorem wpList_insert_own {H : Type} {P : Program} (w : World) {ops : Array Oper} {rest : List Oper} {o : Oper} {a : Act} {Q : Exit → Act → World → Prop}
    (hg : o.guard = none) (m x v : Operand) (t : TypeId) (hop : o.op = Op.insert t m x v)
    (k e : TypeId) (K : Keyed P k) (ht : P.underlying t = some (.map k e)) (R : Value → Option (DataW H × List MemPlace)) (b n : Nat) (D : DataW H)
    (hm : a.eval m = .map (some b)) (hown : w.ownsMap P k R b n D) (hn : n < maxLen) (key val : Value) (kl : Lit) (hx : a.eval x = key) (hv : a.eval v = val) (hkey : keyOf P k key = some kl)
    (d : DataW H) (ps : List MemPlace) (hval : R val = some (d, ps))
    (hK : ∀ w', w'.ownsMap P k R b (n + 1) (D.put kl d) → w.grownBy w' (some b) → wpList P ops Q rest (a.put o.dst undef) w') :
    wpList P ops Q (o :: rest) a w := by
  refine wpList_plain hg fun K' hK' => ?_
  obtain ⟨w', hrun, r1, r2⟩ := hown.update K ht hn hkey hval
  unfold Oper.wp
  simp [execOp, hop, hm, hx, hv, hrun, Result.andThen]
  exact hK' _ _ (hK w' r1 r2)

/-- Block b of w is a map that has 1 at the texts ws, and 0 elsewhere; at most n of them; below B nothing has turned since w0. -/
def WM (w0 w : World) (b n : Nat) (ws : List (List UInt8)) : Prop :=
  ∃ D : DataW Unit, w.ownsMap Tryz.prog 9 (plainElem Tryz.prog 66) b n D ∧ (∀ l, D.atKey (.string l) (.lit (.int .i8 0)) = .lit (.int .i8 (if ws.contains l then 1 else 0))) ∧ Below b w0 w

theorem ty9 : Tryz.prog.underlying 9 = some .string := by kernel_rfl
theorem ty38 : Tryz.prog.underlying 66 = some (.int .i8) := by kernel_rfl
theorem ty55 : Tryz.prog.underlying 189 = some (.map 9 66) := by kernel_rfl
theorem kz38 (w : World) : (zeroValue 66).run Tryz.prog w = .ok (.int .i8 0) w := by kernel_rfl
theorem keyed9 : Keyed Tryz.prog 9 := string_keyed ty9

theorem WM_put {w0 w : World} {b n : Nat} {ws : List (List UInt8)} (u : List UInt8) {w' : World} {D : DataW Unit}
    (hD : w.ownsMap Tryz.prog 9 (plainElem Tryz.prog 66) b n D) (hat : ∀ l, D.atKey (.string l) (.lit (.int .i8 0)) = .lit (.int .i8 (if ws.contains l then 1 else 0))) (hB : Below b w0 w)
    (h1 : w'.ownsMap Tryz.prog 9 (plainElem Tryz.prog 66) b (n + 1) (D.put (.string u) (.lit (.int .i8 1)))) (h2 : w.grownBy w' (some b)) : WM w0 w' b (n + 1) (ws ++ [u]) := by
  refine ⟨_, h1, fun l => ?_, hB.grown h2 (Nat.le_of_lt hD.lt) (fun k e => by cases e; exact Nat.le_refl _)⟩
  by_cases e : l = u
  · subst e
    rw [atKey_put_same hD.isMap (by trivial)]
    simp
  · rw [atKey_put_other (by intro h; cases h; exact e rfl), hat]
    simp [e]

/-- One word more. -/
theorem wpList_insert_word (w0 w : World) {ops : Array Oper} {rest : List Oper} {o : Oper} {a : Act} {Q : Exit → Act → World → Prop}
    (hg : o.guard = none) (m x v : Operand) (hop : o.op = Op.insert 189 m x v) (b n : Nat) (ws : List (List UInt8)) (hm : a.eval m = .map (some b)) (hown : WM w0 w b n ws) (hn : n < 100) (u : ByteArray)
    (hx : a.eval x = .string u) (hu : u.size ≤ 100) (hv : a.eval v = .int .i8 1)
    (hK : ∀ w', WM w0 w' b (n + 1) (ws ++ [u.data.toList]) → wpList Tryz.prog ops Q rest (a.put o.dst undef) w') :
    wpList Tryz.prog ops Q (o :: rest) a w := by
  obtain ⟨D, hD, hat, hB⟩ := hown
  refine wpList_insert_own w hg m x v 189 hop 9 66 keyed9 ty55 (plainElem Tryz.prog 66) b n D hm hD (by unfold maxLen; omega) _ _ (.string u.data.toList) hx hv (keyOf_string_mk ty9 (by unfold maxLen; omega)) (.lit (.int .i8 1)) [] (plainElem_int ty38 (by decide)) ?_
  intro w' h1 h2
  exact hK w' (WM_put u.data.toList hD hat hB h1 h2)

set_option maxHeartbeats 4000000 in
set_option maxRecDepth 100000 in
theorem wordKinds_any (w : World) :
    Calls Tryz.prog 120 #[] w fun e w' => e = .returned (.map (some w.heap.size)) ∧ WM w w' w.heap.size 23 Tx.words := by
  have hmm := @run_makeMap Tryz.prog
  have h0 : WM w (w.alloc (.map #[] 0)) w.heap.size 0 [] := ⟨.map [], World.ownsMap_made w _ _ _, fun l => rfl, (Below.refl _ _).alloc (Nat.le_refl _) _⟩
  go_enter Tryz.func120, Tryz.ntmps120
  go_wp2_with (refine wpList_insert_word w _ rfl _ _ _ rfl w.heap.size _ _ rfl (by assumption) (by decide) _ rfl (by decide) rfl ?_; intro w' hw')
  go_ret
  exact ⟨rfl, hw'⟩

/-- Block b of w is the map of words. -/
def IsWords (w : World) (b : Nat) : Prop := ∃ (D : DataW Unit) (n : Nat), w.ownsMap Tryz.prog 9 (plainElem Tryz.prog 66) b n D ∧ (∀ l, D.atKey (.string l) (.lit (.int .i8 0)) = .lit (.int .i8 (if Tx.wordB l then 1 else 0)))

theorem IsWords.of {w0 w : World} {b : Nat} (h : WM w0 w b 23 Tx.words) : IsWords w b := by
  obtain ⟨D, h1, h2, _⟩ := h
  exact ⟨D, 23, h1, h2⟩
theorem IsWords.lt {w : World} {b : Nat} (h : IsWords w b) : b < w.heap.size := by
  obtain ⟨D, n, h1, _⟩ := h
  exact h1.lt
theorem IsWords.kept {w w' : World} {b : Nat} {row : Option Nat} (h : IsWords w b) (hg : w.grownBy w' row) (hne : some b ≠ row) : IsWords w' b := by
  obtain ⟨D, n, h1, h2⟩ := h
  exact ⟨D, n, h1.kept hg hne, h2⟩
theorem IsWords.look {w : World} {b : Nat} (h : IsWords w b) (s : ByteArray) (hs : s.size ≤ maxLen) :
    (Instr.lookup 189 (.map (some b)) (.string s) false).run Tryz.prog w = .ok (.int .i8 (if Tx.wordB s.data.toList then 1 else 0)) w := by
  obtain ⟨D, n, h1, h2⟩ := h
  obtain ⟨c, hrun, hat, _⟩ := h1.lookup_int keyed9 ty55 ty38 (kz38 w) (key := .string s) (kl := .string s.data.toList) (keyOf_string_mk ty9 hs)
  rw [h2] at hat
  rw [hrun]
  cases hat
  rfl

/-- The two variables of the library that strconv.ParseInt reads hold interface values. -/
def Vars (w : World) : Prop := ∃ t0 p0 t1 p1, w.cell? ⟨2, 0, none⟩ = some (.iface t0 p0) ∧ w.cell? ⟨3, 0, none⟩ = some (.iface t1 p1)
theorem Vars.next {w w' : World} {r : Option Nat} (h : Vars w) (hg : w.grownBy w' r) (hr : ∀ k, r = some k → 6 ≤ k) : Vars w' := by
  obtain ⟨t0, p0, t1, p1, h0, h1⟩ := h
  exact ⟨t0, p0, t1, p1, hg.cell h0 (by intro e; have := hr _ e.symm; simp at this), hg.cell h1 (by intro e; have := hr _ e.symm; simp at this)⟩

/-- A reader over the bytes bs, with its words. -/
structure Rdr (w : World) (rb b off cap mb : Nat) (bs : List UInt8) (k ln st : Nat) : Prop where
  rd : Rd w rb (.slice (some ⟨b, off, none⟩) bs.length cap) (.map (some mb)) k ln st
  words : IsWords w mb
  mne : mb ≠ rb
  len : bs.length ≤ 65536
  cap : bs.length ≤ cap
  ne : b ≠ rb
  cells : ∀ j, j < bs.length → w.cell? ⟨b, off + j, none⟩ = some (.int .u8 (Tx.B bs j))
  vars : Vars w
  rge : 6 ≤ rb

theorem Rdr.next {w w' : World} {rb b off cap mb : Nat} {bs : List UInt8} {k ln st k' ln' st' : Nat} (h : Rdr w rb b off cap mb bs k ln st) (hg : w.grownBy w' (some rb)) (hR : Rd w' rb (.slice (some ⟨b, off, none⟩) bs.length cap) (.map (some mb)) k' ln' st') :
    Rdr w' rb b off cap mb bs k' ln' st' :=
  ⟨hR, h.words.kept hg (by simpa using h.mne), h.mne, h.len, h.cap, h.ne, fun j hj => grownBy_cell hg h.ne (h.cells j hj), h.vars.next hg (fun k e => by cases e; exact h.rge), h.rge⟩
theorem Rdr.kept {w w' : World} {rb b off cap mb : Nat} {bs : List UInt8} {k ln st : Nat} (h : Rdr w rb b off cap mb bs k ln st) (hg : w.grownBy w' none) : Rdr w' rb b off cap mb bs k ln st :=
  h.next (grownBy_none hg) (h.rd.kept hg)
theorem Rdr.alloc {w : World} {rb b off cap mb : Nat} {bs : List UInt8} {k ln st : Nat} (h : Rdr w rb b off cap mb bs k ln st) (o : Obj) : Rdr (w.alloc o) rb b off cap mb bs k ln st :=
  h.kept (World.grownBy_alloc w o none)
end Go.Proofs.YtohjfikjbeafiaaGreatDoor.T1
namespace Go.Proofs.YtohjfikjbeafiaaGreatDoor.T1
open Go.RowKit

/-- A token's five cells. -/
abbrev tokCells (kind n : Int) (s : List UInt8) (ln col : Int) : Array Value := #[.int .i8 kind, .int .i64 n, .string ⟨s.toArray⟩, .int .i64 ln, .int .i64 col]

/-- How a call that reads one token ends: behind it the reader stands behind the token. -/
def TokEnd (w w' : World) (rb b off cap mb : Nat) (bs : List UInt8) (ln st : Nat) (r : Except Int (Tx.Tk × Nat)) (e : Ending) : Prop :=
  w.grownBy w' (some rb) ∧ match r with
    | .error er => e = .returned (.tuple #[.agg (tokCells 0 0 [] 0 0), .int .i64 er])
    | .ok (t, j) => e = .returned (.tuple #[.agg (tokCells t.kind t.n t.s 0 0), .int .i64 0]) ∧ Rdr w' rb b off cap mb bs j ln st
theorem TokEnd.err {w w' : World} {rb b off cap mb : Nat} {bs : List UInt8} {ln st : Nat} {r : Except Int (Tx.Tk × Nat)} {e : Ending} {er : Int} (hr : r = .error er) (hg : w.grownBy w' (some rb)) (he : e = .returned (.tuple #[.agg (tokCells 0 0 [] 0 0), .int .i64 er])) : TokEnd w w' rb b off cap mb bs ln st r e := by
  subst hr; exact ⟨hg, he⟩
theorem TokEnd.ok {w w' : World} {rb b off cap mb : Nat} {bs : List UInt8} {ln st : Nat} {r : Except Int (Tx.Tk × Nat)} {e : Ending} {kind n : Int} {s : List UInt8} {j : Nat} (hr : r = .ok (⟨kind, n, s⟩, j)) (hg : w.grownBy w' (some rb)) (he : e = .returned (.tuple #[.agg (tokCells kind n s 0 0), .int .i64 0])) (hR : Rdr w' rb b off cap mb bs j ln st) : TokEnd w w' rb b off cap mb bs ln st r e := by
  subst hr; exact ⟨hg, he, hR⟩

theorem grownBy_alloc_pre {w w' : World} {o : Obj} {r : Option Nat} (h : (w.alloc o).grownBy w' r) : w.grownBy w' r :=
  ⟨h.os, h.tape, h.output, by have := h.size; simp at this; omega, fun k hk hne => (h.block k (by simp; omega) hne).trans (Below.heap_alloc _ _ _ hk)⟩

/-- A new block stays as it was laid while another is written. -/
theorem new_kept {w w' : World} {C : Array Value} {t : TypeId} {rb : Nat} (hg : (w.alloc (.cells C t)).grownBy w' (some rb)) (hr : rb < w.heap.size) : w'.heap[w.heap.size]? = some (.cells C t (0, 0)) := by
  rw [hg.block w.heap.size (by simp) (by intro e; cases e; omega)]
  exact heap_alloc_new w _

theorem block_cells {w : World} {g : Nat} {C : Array Value} {t : TypeId} (h : w.heap[g]? = some (.cells C t (0, 0))) : (∀ o, w.cell? ⟨g, o, none⟩ = C[o]?) ∧ ∀ o, w.frozen? ⟨g, o, none⟩ = false := by
  refine ⟨fun o => ?_, fun o => ?_⟩
  · simp [World.cell?, h]
  · simp [World.frozen?, h]

theorem Rdr.blt {w : World} {rb b off cap mb : Nat} {bs : List UInt8} {k ln st : Nat} (h : Rdr w rb b off cap mb bs k ln st) (hk : 0 < bs.length) : b < w.heap.size :=
  World.block_lt_of_cell? w _ (h.cells 0 hk)

/-- The reader stays while a block that was new is written. -/
theorem Rdr.beside {w w1 W : World} {rb b off cap mb : Nat} {bs : List UInt8} {k ln st k' ln' st' : Nat} (h : Rdr w rb b off cap mb bs k ln st) (hk : 0 < bs.length) (h1 : Rdr w1 rb b off cap mb bs k' ln' st') (hg : w1.grownBy W (some w.heap.size)) : Rdr W rb b off cap mb bs k' ln' st' := by
  have a1 := h.blt hk
  have a2 := h.rd.lt
  have a3 := h.words.lt
  refine ⟨?_, h1.words.kept hg (by intro e; cases e; omega), h1.mne, h1.len, h1.cap, h1.ne, fun j hj => hg.cell (h1.cells j hj) (by simp; omega), h1.vars.next hg (fun k e => by cases e; have := h.rge; omega), h.rge⟩
  have := hg.block rb h1.rd.lt (by intro e; cases e; omega)
  have hr := h1.rd
  unfold Rd at *
  rw [this, hr]
theorem grownBy_beside {w w1 W : World} {rb : Nat} (h1 : w.grownBy w1 (some rb)) (hg : w1.grownBy W (some w.heap.size)) : w.grownBy W (some rb) :=
  ⟨hg.os.trans h1.os, hg.tape.trans h1.tape, hg.output.trans h1.output, Nat.le_trans h1.size hg.size, fun k hk hne => (hg.block k (Nat.lt_of_lt_of_le hk h1.size) (by intro e; cases e; omega)).trans (h1.block k hk hne)⟩
theorem grownBy_set5 (w : World) (g : Nat) (v0 v1 v2 v3 v4 : Value) :
    w.grownBy (((((w.setCell ⟨g, 0, none⟩ v0).setCell ⟨g, 1, none⟩ v1).setCell ⟨g, 2, none⟩ v2).setCell ⟨g, 3, none⟩ v3).setCell ⟨g, 4, none⟩ v4) (some g) :=
  grownBy_set (grownBy_set (grownBy_set (grownBy_set (grownBy_set (grownBy_refl w _) _) _) _) _) _

set_option maxHeartbeats 1000000 in
theorem word_word (w : World) (rb b off cap mb : Nat) (bs : List UInt8) (k ln st : Nat) (hR : Rdr w rb b off cap mb bs k ln st) (hk : k < bs.length)
    (hw : Tx.wordB (Tx.sub bs k (Tx.upTo Tx.innerB bs k)) = true) :
    Calls Tryz.prog 165 #[.pointer (some ⟨rb, 0, none⟩)] w fun e w' => e = .returned (.tuple #[.agg (tokCells 1 0 (Tx.sub bs k (Tx.upTo Tx.innerB bs k)) 0 0), .int .i64 0]) ∧ Rdr w' rb b off cap mb bs (Tx.upTo Tx.innerB bs k) ln st ∧ w.grownBy w' (some rb) := by
  have hlt := hR.rd.lt
  have hsub := Tx.sub_length (bs := bs) (Tx.upTo_le Tx.innerB bs k) (Tx.upTo_len Tx.innerB (Nat.le_of_lt hk))
  have hup := Tx.upTo_len Tx.innerB (Nat.le_of_lt hk)
  have hlen := hR.len
  go_enter Tryz.func165, Tryz.ntmps165
  go_wp2_with fail
  refine (inner_any _ rb b off cap bs _ k ln st (hR.alloc _).rd hk hR.len hR.cap hR.ne (hR.alloc _).cells).mono ?_
  rintro e w1 ⟨rfl, hR1, hg1⟩
  have hnew := block_cells (new_kept hg1 hlt)
  have hRR := (hR.alloc _).next hg1 hR1
  have hlk := hRR.words.look ⟨(Tx.sub bs k (Tx.upTo Tx.innerB bs k)).toArray⟩ (by show (Tx.sub bs k (Tx.upTo Tx.innerB bs k)).length ≤ maxLen; unfold maxLen; omega)
  have HN : Aside ((w.alloc (.cells #[.int .i8 0, .int .i64 0, .string ⟨#[]⟩, .int .i64 0, .int .i64 0] 194)).grownBy w1 (some rb)) := hg1
  generalize hj : Tx.upTo Tx.innerB bs k = j at *
  generalize hs : Tx.sub bs k j = s at *
  have HJ : Aside (Tx.upTo Tx.innerB bs k = j ∧ Tx.sub bs k j = s) := ⟨hj, hs⟩
  have hww : Tx.wordB (⟨s.toArray⟩ : ByteArray).data.toList = true := hw
  rw [hww] at hlk
  obtain ⟨-, c1, -, -, -⟩ := hR1.c
  have c0 := hnew.1 0
  have c2 := hnew.1 1
  have c3 := hnew.1 2
  have c4 := hnew.1 3
  have c5 := hnew.1 4
  simp at c0 c2 c3 c4 c5
  have f0 := hnew.2
  clear hnew hj hs hsub hup hlen hg1 hww hw
  go_wp2
  refine bodyPost_ret (v := .tuple #[.agg (tokCells 1 0 s 0 0), .int .i64 0]) (by simp [results, Tryz.results165, go_sem, c0, c2, c3, c4, c5]) rfl ?_
  rw [HJ.out.1]
  refine ⟨?_, hR.beside (by omega) hRR (grownBy_set5 _ _ _ _ _ _ _), grownBy_beside (grownBy_alloc_pre HN.out) (grownBy_set5 _ _ _ _ _ _ _)⟩
  rw [HJ.out.2]

set_option maxHeartbeats 1000000 in
theorem word_name (w : World) (rb b off cap mb : Nat) (bs : List UInt8) (k ln st : Nat) (hR : Rdr w rb b off cap mb bs k ln st) (hk : k < bs.length)
    (hw : Tx.wordB (Tx.sub bs k (Tx.upTo Tx.innerB bs k)) = false) (h32 : (Tx.sub bs k (Tx.upTo Tx.innerB bs k)).length ≤ 32) :
    Calls Tryz.prog 165 #[.pointer (some ⟨rb, 0, none⟩)] w fun e w' => e = .returned (.tuple #[.agg (tokCells 2 0 (Tx.sub bs k (Tx.upTo Tx.innerB bs k)) 0 0), .int .i64 0]) ∧ Rdr w' rb b off cap mb bs (Tx.upTo Tx.innerB bs k) ln st ∧ w.grownBy w' (some rb) := by
  have hlt := hR.rd.lt
  have hsub := Tx.sub_length (bs := bs) (Tx.upTo_le Tx.innerB bs k) (Tx.upTo_len Tx.innerB (Nat.le_of_lt hk))
  have hup := Tx.upTo_len Tx.innerB (Nat.le_of_lt hk)
  have hlen := hR.len
  go_enter Tryz.func165, Tryz.ntmps165
  go_wp2_with fail
  refine (inner_any _ rb b off cap bs _ k ln st (hR.alloc _).rd hk hR.len hR.cap hR.ne (hR.alloc _).cells).mono ?_
  rintro e w1 ⟨rfl, hR1, hg1⟩
  have hnew := block_cells (new_kept hg1 hlt)
  have hRR := (hR.alloc _).next hg1 hR1
  have hlk := hRR.words.look ⟨(Tx.sub bs k (Tx.upTo Tx.innerB bs k)).toArray⟩ (by show (Tx.sub bs k (Tx.upTo Tx.innerB bs k)).length ≤ maxLen; unfold maxLen; omega)
  have HN : Aside ((w.alloc (.cells #[.int .i8 0, .int .i64 0, .string ⟨#[]⟩, .int .i64 0, .int .i64 0] 194)).grownBy w1 (some rb)) := hg1
  generalize hj : Tx.upTo Tx.innerB bs k = j at *
  generalize hs : Tx.sub bs k j = s at *
  have HJ : Aside (Tx.upTo Tx.innerB bs k = j ∧ Tx.sub bs k j = s) := ⟨hj, hs⟩
  have hww : Tx.wordB (⟨s.toArray⟩ : ByteArray).data.toList = false := hw
  rw [hww] at hlk
  have h32i : decide ((32 : Int) < (s.length : Int)) = false := by simp; omega
  clear h32
  obtain ⟨-, c1, -, -, -⟩ := hR1.c
  have c0 := hnew.1 0
  have c2 := hnew.1 1
  have c3 := hnew.1 2
  have c4 := hnew.1 3
  have c5 := hnew.1 4
  simp at c0 c2 c3 c4 c5
  have f0 := hnew.2
  clear hnew hj hs hsub hup hlen hg1 hww hw
  go_wp2
  refine bodyPost_ret (v := .tuple #[.agg (tokCells 2 0 s 0 0), .int .i64 0]) (by simp [results, Tryz.results165, go_sem, c0, c2, c3, c4, c5]) rfl ?_
  rw [HJ.out.1]
  refine ⟨?_, hR.beside (by omega) hRR (grownBy_set5 _ _ _ _ _ _ _), grownBy_beside (grownBy_alloc_pre HN.out) (grownBy_set5 _ _ _ _ _ _ _)⟩
  rw [HJ.out.2]

set_option maxHeartbeats 1000000 in
theorem word_long (w : World) (rb b off cap mb : Nat) (bs : List UInt8) (k ln st : Nat) (hR : Rdr w rb b off cap mb bs k ln st) (hk : k < bs.length)
    (hw : Tx.wordB (Tx.sub bs k (Tx.upTo Tx.innerB bs k)) = false) (h32 : 32 < (Tx.sub bs k (Tx.upTo Tx.innerB bs k)).length) :
    Calls Tryz.prog 165 #[.pointer (some ⟨rb, 0, none⟩)] w fun e w' => e = .returned (.tuple #[.agg (tokCells 0 0 [] 0 0), .int .i64 12]) ∧ Rdr w' rb b off cap mb bs (Tx.upTo Tx.innerB bs k) ln st ∧ w.grownBy w' (some rb) := by
  have hlt := hR.rd.lt
  have hsub := Tx.sub_length (bs := bs) (Tx.upTo_le Tx.innerB bs k) (Tx.upTo_len Tx.innerB (Nat.le_of_lt hk))
  have hup := Tx.upTo_len Tx.innerB (Nat.le_of_lt hk)
  have hlen := hR.len
  go_enter Tryz.func165, Tryz.ntmps165
  go_wp2_with fail
  refine (inner_any _ rb b off cap bs _ k ln st (hR.alloc _).rd hk hR.len hR.cap hR.ne (hR.alloc _).cells).mono ?_
  rintro e w1 ⟨rfl, hR1, hg1⟩
  have hnew := block_cells (new_kept hg1 hlt)
  have hRR := (hR.alloc _).next hg1 hR1
  have hlk := hRR.words.look ⟨(Tx.sub bs k (Tx.upTo Tx.innerB bs k)).toArray⟩ (by show (Tx.sub bs k (Tx.upTo Tx.innerB bs k)).length ≤ maxLen; unfold maxLen; omega)
  have HN : Aside ((w.alloc (.cells #[.int .i8 0, .int .i64 0, .string ⟨#[]⟩, .int .i64 0, .int .i64 0] 194)).grownBy w1 (some rb)) := hg1
  generalize hj : Tx.upTo Tx.innerB bs k = j at *
  generalize hs : Tx.sub bs k j = s at *
  have HJ : Aside (Tx.upTo Tx.innerB bs k = j ∧ Tx.sub bs k j = s) := ⟨hj, hs⟩
  have hww : Tx.wordB (⟨s.toArray⟩ : ByteArray).data.toList = false := hw
  rw [hww] at hlk
  have h32i : (32 : Int) < (s.length : Int) := by omega
  clear h32
  obtain ⟨-, c1, -, -, -⟩ := hR1.c
  have c0 := hnew.1 0
  have c2 := hnew.1 1
  have c3 := hnew.1 2
  have c4 := hnew.1 3
  have c5 := hnew.1 4
  simp at c0 c2 c3 c4 c5
  have f0 := hnew.2
  clear hnew hj hs hsub hup hlen hg1 hww hw
  go_wp2
  refine bodyPost_ret (v := .tuple #[.agg (tokCells 0 0 [] 0 0), .int .i64 12]) (by simp [results, Tryz.results165, go_sem, c0, c2, c3, c4, c5]) rfl ?_
  rw [HJ.out.1]
  refine ⟨?_, hR.beside (by omega) hRR (grownBy_set5 _ _ _ _ _ _ _), grownBy_beside (grownBy_alloc_pre HN.out) (grownBy_set5 _ _ _ _ _ _ _)⟩
  rfl

end Go.Proofs.YtohjfikjbeafiaaGreatDoor.T1
namespace Go.Proofs.YtohjfikjbeafiaaGreatDoor.T1
open Go.RowKit

set_option maxHeartbeats 1000000 in
theorem textByte_any (w : World) (rb b off cap mb : Nat) (bs : List UInt8) (k ln st : Nat) (hR : Rdr w rb b off cap mb bs k ln st) (hk : k < bs.length) :
    Calls Tryz.prog 188 #[.pointer (some ⟨rb, 0, none⟩)] w fun e w' => e = .returned (.tuple #[.int .u8 (Tx.txb bs k).1, .bool (Tx.txb bs k).2.1]) ∧ Rdr w' rb b off cap mb bs (Tx.txb bs k).2.2 ln st ∧ w.grownBy w' (some rb) := by
  obtain ⟨c0, -, c2, -, -⟩ := hR.rd.c
  have f2 := hR.rd.f 2
  have cx := hR.cells k hk
  have hlen := hR.len
  have hk' : (k : Int) < (bs.length : Int) := by omega
  have hk0 : (0 : Int) ≤ (k : Int) := by omega
  by_cases h92 : (Tx.B bs k == 92) = true
  · have e92 : Tx.B bs k = 92 := by simpa using h92
    have hb92 : (Tx.B bs k == 92) = true := h92
    have n92 : (Tx.B bs k != 92) = false := by simp [e92]
    go_enter Tryz.func188, Tryz.ntmps188
    go_wp2_with fail
    clear h92 e92
    go_quiet (fail)
    go_wp2_with fail
    have hg1 := grownBy_set (rb := rb) (o := 2) (grownBy_drewN (grownBy_refl w (some rb)) nq) (Value.int IntKind.i64 (↑k + 1))
    have hR1 := hR.next hg1 (Rd.setAt hR.rd (k + 1) (by omega))
    generalize (w.drewN nq).setCell { block := rb, off := 2 } (Value.int IntKind.i64 (↑k + 1)) = w1 at *
    clear c0 c2 f2 cx
    obtain ⟨c0, -, c2, -, -⟩ := hR1.rd.c
    have f2 := hR1.rd.f 2
    by_cases hk1 : k + 1 < bs.length
    · have cx := hR1.cells (k + 1) hk1
      have hk1' : (k : Int) + 1 < (bs.length : Int) := by omega
      have hne : ((k : Int) + 1 == (bs.length : Int)) = false := by simp; omega
      by_cases h110 : (Tx.B bs (k + 1) == 110) = true
      · have HT : Aside (Tx.txb bs k = (10, true, k + 2)) := by show _ = _; simp [Tx.txb, hb92, hk1, h110]
        go_quiet (fail)
        go_wp2_with fail
        go_quiet (fail)
        go_wp2_with fail
        go_ret2
        rw [HT.out]
        exact ⟨rfl, hR1.next (grownBy_set (grownBy_drewN (grownBy_refl _ _) _) _) (Rd.setAt hR1.rd (k + 2) (by omega)), grownBy_set (grownBy_drewN hg1 _) _⟩
      · have h110' : (Tx.B bs (k + 1) == 110) = false := by simpa using h110
        have HT : Aside (Tx.txb bs k = (Tx.B bs (k + 1), Tx.B bs (k + 1) == 34 || Tx.B bs (k + 1) == 92, k + 2)) := by show _ = _; simp [Tx.txb, hb92, hk1, h110']
        clear h110
        go_quiet (fail)
        go_wp2_with fail
        go_quiet (fail)
        by_cases h34 : (Tx.B bs (k + 1) == 34) = true
        · go_wp2
          go_ret2
          rw [HT.out]
          refine ⟨?_, hR1.next (grownBy_set (grownBy_drewN (grownBy_refl _ _) _) _) (Rd.setAt hR1.rd (k + 2) (by omega)), grownBy_set (grownBy_drewN hg1 _) _⟩
          simp [h34]
        · have h34' : (Tx.B bs (k + 1) == 34) = false := by simpa using h34
          clear h34
          go_wp2
          go_ret2
          rw [HT.out]
          refine ⟨?_, hR1.next (grownBy_set (grownBy_drewN (grownBy_refl _ _) _) _) (Rd.setAt hR1.rd (k + 2) (by omega)), grownBy_set (grownBy_drewN hg1 _) _⟩
          simp [h34']
    · have he : ((k : Int) + 1 == (bs.length : Int)) = true := by simp; omega
      have HT : Aside (Tx.txb bs k = (0, false, k + 1)) := by show _ = _; simp [Tx.txb, hb92, hk1]
      go_quiet (fail)
      go_wp2
      go_ret2
      rw [HT.out]
      exact ⟨rfl, hR1.next (grownBy_drewN (grownBy_refl _ _) _) (hR1.rd.drewN _), grownBy_drewN hg1 _⟩
  · have n92 : (Tx.B bs k != 92) = true := by simpa using h92
    have HT : Aside (Tx.txb bs k = (Tx.B bs k, Tx.seenB (Tx.B bs k), k + 1)) := by show _ = _; simp [Tx.txb, h92]
    clear h92
    go_enter Tryz.func188, Tryz.ntmps188
    go_wp2_with fail
    go_quiet (fail)
    go_wp2_with (go_at_call 160; refine (isSeen_any _ _).mono ?_; rintro e w' ⟨rfl, rfl⟩)
    go_ret2
    rw [HT.out]
    exact ⟨rfl, hR.next (grownBy_set (grownBy_drewN (grownBy_refl _ _) _) _) (Rd.setAt hR.rd (k + 1) (by omega)), grownBy_set (grownBy_drewN (grownBy_refl _ _) _) _⟩
end Go.Proofs.YtohjfikjbeafiaaGreatDoor.T1
