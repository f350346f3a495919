/- What the program's IsWord and IsName answer. -/
import Derived.Test.YtjddbiabkobfoaaDoorTokAll
namespace Go.Proofs.YtjddbiabkobfoaaDoor
open Go.RowKit

/-- May this text name a thing? -/
def nameB (l : List UInt8) : Bool := decide (0 < l.length) && decide (l.length ≤ 32) && Tx.letterB (Tx.B l 0) && (Tx.upTo Tx.innerB l 0 == l.length) && !Tx.wordB l

theorem nameB_len {l : List UInt8} (h : ¬ (0 < l.length ∧ l.length ≤ 32)) : nameB l = false := by
  unfold nameB
  by_cases h1 : 0 < l.length
  · have h2 : ¬ l.length ≤ 32 := fun h2 => h ⟨h1, h2⟩
    simp [h2]
  · simp [h1]
theorem nameB_first {l : List UInt8} (h : Tx.letterB (Tx.B l 0) = false) : nameB l = false := by simp [nameB, h]
theorem nameB_in {l : List UInt8} (h : Tx.upTo Tx.innerB l 0 ≠ l.length) : nameB l = false := by simp [nameB, h]
theorem nameB_is {l : List UInt8} (h1 : 0 < l.length) (h2 : l.length ≤ 32) (h3 : Tx.letterB (Tx.B l 0) = true) (h4 : Tx.upTo Tx.innerB l 0 = l.length) : nameB l = !Tx.wordB l := by simp [nameB, h1, h2, h3, h4]

theorem str_len (s : ByteArray) : s.data.toList.length = s.size := by rw [Array.length_toList]; rfl
theorem str_B (s : ByteArray) (k : Nat) (h : k < s.size) : ((s[k]'h).toNat : Int) = Tx.B s.data.toList k := by
  unfold Tx.B
  have h' : k < s.data.toList.length := by simpa using h
  rw [List.getElem?_eq_getElem h']
  rfl

set_option maxHeartbeats 400000 in
theorem isWord_any (s : ByteArray) (hs : s.size ≤ maxLen) (w : World) :
    Calls Tryd.prog 23 #[.string s] w fun e w' => e = .returned (.bool (Tx.wordB s.data.toList)) ∧ Below w.heap.size w w' := by
  go_enter Tryd.func23, Tryd.ntmps23
  go_wp2_with fail
  refine (wordKinds_any _).mono ?_
  rintro e w1 ⟨rfl, hW⟩
  have hlk := (IsWords.of hW).look s hs
  have hB : Below w.heap.size w w1 := by obtain ⟨_, _, _, h⟩ := hW; exact h
  clear hW
  cases hb : Tx.wordB s.data.toList
  all_goals
    rw [hb] at hlk
    have HB : Aside (Tx.wordB s.data.toList = _) := hb
    clear hb
    go_wp2_with fail
    go_ret
    rw [HB.out]
    exact ⟨rfl, hB⟩

set_option maxHeartbeats 1000000 in
theorem isName_any (s : ByteArray) (hs : s.size ≤ maxLen) (w : World) :
    Calls Tryd.prog 25 #[.string s] w fun e w' => e = .returned (.bool (nameB s.data.toList)) ∧ Below w.heap.size w w' := by
  have hsl := str_len s
  have hml : s.size ≤ 9223372036854775807 := by unfold maxLen at hs; omega
  by_cases h0 : s.size = 0
  · have HN : Aside (nameB s.data.toList = false) := nameB_len (by omega)
    have he : s.toList.isEmpty = true := by rw [ByteArray.toList_eq]; exact List.isEmpty_iff.2 (List.length_eq_zero_iff.1 (hsl.trans h0))
    clear hsl
    go_enter Tryd.func25, Tryd.ntmps25
    go_wp2_with fail
    go_ret
    rw [HN.out]
    exact ⟨rfl, Below.refl _ _⟩
  have he : s.toList.isEmpty = false := by
    rw [ByteArray.toList_eq]
    cases hd : s.data.toList with
    | nil => rw [hd] at hsl; simp at hsl; omega
    | cons _ _ => rfl
  by_cases h32 : 32 < s.size
  · have HN : Aside (nameB s.data.toList = false) := nameB_len (by omega)
    have h32' : (32 : Int) < (s.size : Int) := by omega
    clear hsl h0
    go_enter Tryd.func25, Tryd.ntmps25
    go_wp2_with fail
    go_ret
    rw [HN.out]
    exact ⟨rfl, Below.refl _ _⟩
  have h32' : decide ((32 : Int) < (s.size : Int)) = false := by simp; omega
  have hpos : 0 < s.size := by omega
  have hB0 := str_B s 0 hpos
  by_cases hlt : Tx.letterB (Tx.B s.data.toList 0) = true
  · have hsl32 : s.size ≤ 32 := by omega
    have HL : Aside (s.data.toList.length = s.size) := hsl
    clear hsl h0 h32
    go_enter Tryd.func25, Tryd.ntmps25
    go_wp2_with (go_at_call 46; refine (isLetter_any _ _).mono ?_; rintro e w' ⟨rfl, hw'⟩; replace hw' := hw'.symm; subst hw')
    go_loopg [19] s.size (fun g t wr => wr = w ∧ ∃ k : Nat, k + g = s.size ∧ t = .int .i64 k ∧ Aside (Tx.upTo Tx.innerB s.data.toList 0 = Tx.upTo Tx.innerB s.data.toList k))
    case atStart => exact ⟨rfl, 0, by omega, rfl, rfl⟩
    case round =>
      obtain ⟨rfl, k, hkg, rfl, HK⟩ := hrel
      by_cases hk : k < s.size
      · have hk' : (k : Int) < (s.size : Int) := by omega
        have hBk := str_B s k hk
        have hk0 : (0 : Int) ≤ (k : Int) := by omega
        by_cases hin : Tx.innerB (Tx.B s.data.toList k) = true
        · have HS : Aside (Tx.upTo Tx.innerB s.data.toList k = Tx.upTo Tx.innerB s.data.toList (k + 1)) := Tx.upTo_in (by rw [HL.out]; exact hk) hin
          go_wp2_with (go_at_call 47; refine (isInner_any _ _).mono ?_; rintro e w' ⟨rfl, rfl⟩)
          go_roundg (gk - 1)
          case measure => omega
          case rel => exact ⟨rfl, k + 1, by omega, by go_num, HK.out.trans HS.out⟩
        · have hin' : Tx.innerB (Tx.B s.data.toList k) = false := by simpa using hin
          have HN : Aside (nameB s.data.toList = false) := nameB_in (by rw [HK.out, Tx.upTo_out (by rw [HL.out]; exact hk) hin', HL.out]; omega)
          clear hin
          go_wp2_with (go_at_call 47; refine (isInner_any _ _).mono ?_; rintro e w' ⟨rfl, rfl⟩)
          go_ret
          rw [HN.out]
          exact ⟨rfl, Below.refl _ _⟩
      · have hk' : ¬ (k : Int) < (s.size : Int) := by omega
        have HN : Aside (nameB s.data.toList = !Tx.wordB s.data.toList) := nameB_is (by rw [HL.out]; exact hpos) (by rw [HL.out]; exact hsl32) hlt (by rw [HK.out, Tx.upTo_end (by rw [HL.out]; omega), HL.out]; omega)
        go_wp2_with (go_at_call 23; refine (isWord_any _ hs _).mono ?_; rintro e w' ⟨rfl, hB⟩)
        go_ret
        rw [HN.out]
        exact ⟨rfl, hB⟩
  · have hlt' : Tx.letterB (Tx.B s.data.toList 0) = false := by simpa using hlt
    have HN : Aside (nameB s.data.toList = false) := nameB_first hlt'
    clear hsl h0 h32 hlt
    go_enter Tryd.func25, Tryd.ntmps25
    go_wp2_with (go_at_call 46; refine (isLetter_any _ _).mono ?_; rintro e w' ⟨rfl, hw'⟩; replace hw' := hw'.symm; subst hw')
    go_ret
    rw [HN.out]
    exact ⟨rfl, Below.refl _ _⟩
end Go.Proofs.YtjddbiabkobfoaaDoor
