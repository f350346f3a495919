/- Plain functions on lists of bytes: what layer 1 of the document says a source's tokens are. Nothing of the program is named here. -/
import Derived.Below
import Derived.Lib.ParseIntB
namespace Go.Proofs.YtjddbiabkobfoaaDoor
namespace Tx

/-- The byte at a place, as a number; 0 behind the end. -/
def B (bs : List UInt8) (k : Nat) : Int := ((bs[k]?.getD 0).toNat : Int)
theorem B_bd (bs : List UInt8) (k : Nat) : 0 ≤ B bs k ∧ B bs k ≤ 255 := by
  unfold B
  have := (bs[k]?.getD 0).toNat_lt
  omega

def blankB (c : Int) : Bool := c == 9 || c == 10 || c == 13 || c == 32
def letterB (c : Int) : Bool := decide (97 ≤ c) && decide (c ≤ 122) || decide (65 ≤ c) && decide (c ≤ 90)
def digitB (c : Int) : Bool := decide (48 ≤ c) && decide (c ≤ 57)
def innerB (c : Int) : Bool := letterB c || digitB c || c == 95
def seenB (c : Int) : Bool := decide (32 ≤ c) && decide (c ≤ 126)
def notTen (c : Int) : Bool := !(c == 10)

/-- From a place on, as far as the bytes are such. -/
def scan (p : Int → Bool) (bs : List UInt8) : Nat → Nat → Nat
  | 0, k => k
  | f + 1, k => if k < bs.length then (if p (B bs k) then scan p bs f (k + 1) else k) else k
def upTo (p : Int → Bool) (bs : List UInt8) (k : Nat) : Nat := scan p bs (bs.length - k) k

theorem upTo_in {p : Int → Bool} {bs : List UInt8} {k : Nat} (h : k < bs.length) (hp : p (B bs k) = true) : upTo p bs k = upTo p bs (k + 1) := by
  unfold upTo
  rw [show bs.length - k = (bs.length - (k + 1)) + 1 by omega]
  simp [scan, h, hp]
theorem upTo_out {p : Int → Bool} {bs : List UInt8} {k : Nat} (h : k < bs.length) (hp : p (B bs k) = false) : upTo p bs k = k := by
  unfold upTo
  rw [show bs.length - k = (bs.length - (k + 1)) + 1 by omega]
  simp [scan, h, hp]
theorem upTo_end {p : Int → Bool} {bs : List UInt8} {k : Nat} (h : bs.length ≤ k) : upTo p bs k = k := by
  unfold upTo
  rw [show bs.length - k = 0 by omega]
  rfl
theorem scan_le (p : Int → Bool) (bs : List UInt8) : ∀ (f k : Nat), k ≤ scan p bs f k
  | 0, k => Nat.le_refl _
  | f + 1, k => by
    unfold scan
    have := scan_le p bs f (k + 1)
    split
    · split <;> omega
    · omega
theorem scan_len (p : Int → Bool) (bs : List UInt8) : ∀ (f k : Nat), k ≤ bs.length → scan p bs f k ≤ bs.length
  | 0, k => fun h => h
  | f + 1, k => fun h => by
    unfold scan
    split
    · split
      · exact scan_len p bs f (k + 1) (by omega)
      · omega
    · omega
theorem upTo_le (p : Int → Bool) (bs : List UInt8) (k : Nat) : k ≤ upTo p bs k := scan_le _ _ _ _
theorem upTo_len (p : Int → Bool) {bs : List UInt8} {k : Nat} (h : k ≤ bs.length) : upTo p bs k ≤ bs.length := scan_len _ _ _ _ h
theorem scan_all (p : Int → Bool) (bs : List UInt8) : ∀ (f k j : Nat), k ≤ j → j < scan p bs f k → p (B bs j) = true ∧ j < bs.length
  | 0, k, j => fun h1 h2 => by simp [scan] at h2; omega
  | f + 1, k, j => fun h1 h2 => by
    unfold scan at h2
    split at h2
    · split at h2
      · by_cases e : j = k
        · subst e; exact ⟨by assumption, by assumption⟩
        · exact scan_all p bs f (k + 1) j (by omega) h2
      · omega
    · omega
theorem upTo_all (p : Int → Bool) (bs : List UInt8) (k j : Nat) (h1 : k ≤ j) (h2 : j < upTo p bs k) : p (B bs j) = true ∧ j < bs.length := scan_all p bs _ k j h1 h2
theorem scan_stop (p : Int → Bool) (bs : List UInt8) : ∀ (f k : Nat), bs.length - k ≤ f → scan p bs f k < bs.length → p (B bs (scan p bs f k)) = false
  | 0, k => fun h1 h2 => by simp [scan] at h2; omega
  | f + 1, k => fun h1 h2 => by
    unfold scan at h2 ⊢
    by_cases hk : k < bs.length
    · rw [if_pos hk] at h2 ⊢
      by_cases hp : p (B bs k) = true
      · rw [if_pos hp] at h2 ⊢
        exact scan_stop p bs f (k + 1) (by omega) h2
      · rw [if_neg hp] at h2 ⊢
        simpa using hp
    · rw [if_neg hk] at h2; omega
theorem upTo_stop (p : Int → Bool) (bs : List UInt8) (k : Nat) (h : upTo p bs k < bs.length) : p (B bs (upTo p bs k)) = false := scan_stop p bs _ k (Nat.le_refl _) h

/-- How many bytes 10 lie ahead of a place, and where its line begins. -/
def lnTo (bs : List UInt8) : Nat → Nat
  | 0 => 0
  | k + 1 => if B bs k == 10 then lnTo bs k + 1 else lnTo bs k
def stTo (bs : List UInt8) : Nat → Nat
  | 0 => 0
  | k + 1 => if B bs k == 10 then k + 1 else stTo bs k
theorem stTo_le (bs : List UInt8) : ∀ k, stTo bs k ≤ k
  | 0 => Nat.le_refl _
  | k + 1 => by
    have := stTo_le bs k
    unfold stTo
    split <;> omega
theorem lnTo_le (bs : List UInt8) : ∀ k, lnTo bs k ≤ k
  | 0 => Nat.le_refl _
  | k + 1 => by
    have := lnTo_le bs k
    unfold lnTo
    split <;> omega
/-- Where no byte 10 stands between, line and beginning stay. -/
theorem lnst_same (bs : List UInt8) (i : Nat) : ∀ d, (∀ j, i ≤ j → j < i + d → (B bs j == 10) = false) → lnTo bs (i + d) = lnTo bs i ∧ stTo bs (i + d) = stTo bs i
  | 0, _ => ⟨rfl, rfl⟩
  | d + 1, h => by
    have ih := lnst_same bs i d (fun j a b => h j a (by omega))
    have hh := h (i + d) (by omega) (by omega)
    refine ⟨?_, ?_⟩
    · show (if B bs (i + d) == 10 then lnTo bs (i + d) + 1 else lnTo bs (i + d)) = _
      rw [hh]; exact ih.1
    · show (if B bs (i + d) == 10 then (i + d) + 1 else stTo bs (i + d)) = _
      rw [hh]; exact ih.2

/-- The bytes from one place up to another. -/
def sub (bs : List UInt8) (i j : Nat) : List UInt8 := (bs.drop i).take (j - i)
theorem sub_length {bs : List UInt8} {i j : Nat} (h1 : i ≤ j) (h2 : j ≤ bs.length) : (sub bs i j).length = j - i := by
  unfold sub; simp; omega
theorem sub_get {bs : List UInt8} {i j d : Nat} (hd : d < (sub bs i j).length) : (((sub bs i j)[d]'hd).toNat : Int) = B bs (i + d) := by
  have hd' : d < j - i ∧ i + d < bs.length := by unfold sub at hd; simp at hd; omega
  unfold B
  rw [List.getElem?_eq_getElem hd'.2]
  simp [sub]

/-- The words of the language, as bytes. -/
def words : List (List UInt8) := [[109, 111, 100, 117, 108, 101], [105, 109, 112, 111, 114, 116], [101, 120, 112, 111, 114, 116], [108, 101, 116], [114, 101, 99], [105, 110], [105, 102], [116, 104, 101, 110], [101, 108, 115, 101], [102, 110], [116, 114, 117, 101], [102, 97, 108, 115, 101], [105, 110, 116], [98, 111, 111, 108], [116, 101, 120, 116], [98, 111, 120], [102, 105, 114, 115, 116], [115, 101, 99, 111, 110, 100], [104, 101, 97, 100], [116, 97, 105, 108], [101, 109, 112, 116, 121], [99, 111, 110, 115], [115, 105, 122, 101]]
def wordB (l : List UInt8) : Bool := words.contains l
theorem wordB_short {l : List UInt8} (h : wordB l = true) : l.length ≤ 6 := by
  unfold wordB words at h
  simp at h
  rcases h with rfl | rfl | rfl | rfl | rfl | rfl | rfl | rfl | rfl | rfl | rfl | rfl | rfl | rfl | rfl | rfl | rfl | rfl | rfl | rfl | rfl | rfl | rfl <;> decide

/-- What stands for the next byte of a text: the byte, whether it may be, and where one goes on. -/
def txb (bs : List UInt8) (k : Nat) : Int × Bool × Nat :=
  if B bs k == 92 then
    if k + 1 < bs.length then (if B bs (k + 1) == 110 then (10, true, k + 2) else (B bs (k + 1), B bs (k + 1) == 34 || B bs (k + 1) == 92, k + 2)) else (0, false, k + 1)
  else (B bs k, seenB (B bs k), k + 1)

theorem txb_bd (bs : List UInt8) (k : Nat) : 0 ≤ (txb bs k).1 ∧ (txb bs k).1 ≤ 255 := by
  unfold txb
  have h1 := B_bd bs k
  have h2 := B_bd bs (k + 1)
  split
  · split
    · split
      · simp
      · exact h2
    · simp
  · exact h1
theorem txb_lt (bs : List UInt8) (k : Nat) (hk : k < bs.length) : k < (txb bs k).2.2 ∧ (txb bs k).2.2 ≤ bs.length := by
  unfold txb
  split
  · split
    · split <;> (simp; omega)
    · simp; omega
  · simp; omega

/-- A byte out of a number. -/
def byteOf (c : Int) : UInt8 := UInt8.ofNat c.toNat
theorem byteOf_toNat {c : Int} (h : 0 ≤ c ∧ c ≤ 255) : ((byteOf c).toNat : Int) = c := by
  unfold byteOf
  have : c.toNat < 256 := by omega
  rw [UInt8.toNat_ofNat_of_lt' (by simpa using this)]
  omega

/-- A text from behind its first mark on: what it stands for, and where it ends; at most 64 bytes. -/
def txt (bs : List UInt8) : Nat → Nat → List UInt8 → Option (List UInt8 × Nat)
  | 0, _, _ => none
  | f + 1, k, acc =>
    if k < bs.length then
      if B bs k == 34 then some (acc, k + 1)
      else if (txb bs k).2.1 && !(acc.length == 64) then txt bs f (txb bs k).2.2 (acc ++ [byteOf (txb bs k).1]) else none
    else none
def textAt (bs : List UInt8) (k : Nat) : Option (List UInt8 × Nat) := txt bs (bs.length + 1) (k + 1) []

/-- What a text says as a number of 64 bits, if it says one. -/
def numOf (l : List UInt8) : Option Int := match Lib.parseIntB 64 l with | .ok v => some v | _ => none

/-- A token, without its place. -/
structure Tk where
  kind : Int
  n : Int
  s : List UInt8

/-- The token that begins at a place, and where it ends; or why there is none: by the first byte. -/
def oneWord (bs : List UInt8) (k : Nat) : Except Int (Tk × Nat) :=
  if wordB (sub bs k (upTo innerB bs k)) then .ok (⟨1, 0, sub bs k (upTo innerB bs k)⟩, upTo innerB bs k)
  else if 32 < (sub bs k (upTo innerB bs k)).length then .error 12 else .ok (⟨2, 0, sub bs k (upTo innerB bs k)⟩, upTo innerB bs k)
def oneNum (bs : List UInt8) (k : Nat) : Except Int (Tk × Nat) :=
  if (B bs k == 48) = true ∧ k + 1 < upTo innerB bs k then .error 13
  else match numOf (sub bs k (upTo innerB bs k)) with
    | some v => .ok (⟨3, v, []⟩, upTo innerB bs k)
    | none => .error 13
def oneText (bs : List UInt8) (k : Nat) : Except Int (Tk × Nat) :=
  match textAt bs k with
  | some (s, j) => .ok (⟨4, 0, s⟩, j)
  | none => .error 14
theorem oneText_some {bs : List UInt8} {k : Nat} {s : List UInt8} {j : Nat} (h : textAt bs k = some (s, j)) : oneText bs k = .ok (⟨4, 0, s⟩, j) := by unfold oneText; rw [h]
theorem oneText_none {bs : List UInt8} {k : Nat} (h : textAt bs k = none) : oneText bs k = .error 14 := by unfold oneText; rw [h]
def longs : List (List UInt8) := [[45, 62], [61, 62], [58, 61], [61, 61], [43, 43]]
def longB (l : List UInt8) : Bool := longs.contains l
def shorts : List UInt8 := [40, 41, 91, 93, 123, 125, 44, 58, 59, 46, 61, 60, 43, 45, 42, 63, 33]
def shortB (c : Int) : Bool := shorts.contains (byteOf c)
def oneMark (bs : List UInt8) (k : Nat) : Except Int (Tk × Nat) :=
  if k + 2 ≤ bs.length ∧ longB (sub bs k (k + 2)) = true then .ok (⟨5, 0, sub bs k (k + 2)⟩, k + 2)
  else if shortB (B bs k) then .ok (⟨5, 0, sub bs k (k + 1)⟩, k + 1) else .error 11
def one (bs : List UInt8) (k : Nat) : Except Int (Tk × Nat) :=
  if letterB (B bs k) then oneWord bs k
  else if digitB (B bs k) then oneNum bs k
  else if B bs k == 34 then oneText bs k
  else oneMark bs k

end Tx
end Go.Proofs.YtjddbiabkobfoaaDoor
