/- What strings.Cut answers at one blank. -/
import Derived.Test.YtpikfdkgblghhaaGreatDoorXai
import Derived.Test.YtpikfdkgblghhaaGreatDoorXaj
import Derived.Lib.IndexLaws
namespace Go.Proofs.YtpikfdkgblghhaaGreatDoor
open Go.RowKit
set_option maxRecDepth 100000

namespace Tr
theorem cut32_none : ∀ {l : List UInt8}, Lib.indexByte l 32 = -1 → cut32 l = (l, [], false)
  | [], _ => rfl
  | c :: r, h => by
    unfold Lib.indexByte at h
    by_cases hc : c = 32
    · subst hc; simp at h
    · have h' : Lib.indexByte r 32 = -1 := by
        have := Lib.indexByte_ge r 32
        rw [if_neg (by simpa using hc)] at h
        split at h
        · rename_i h1; simpa using h1
        · omega
      rw [cut32, if_neg hc, cut32_none h']
theorem cut32_some : ∀ {l : List UInt8} {o : Nat}, Lib.indexByte l 32 = o → o < l.length ∧ cut32 l = (l.take o, l.drop (o + 1), true)
  | [], o, h => by simp [Lib.indexByte] at h
  | c :: r, o, h => by
    unfold Lib.indexByte at h
    by_cases hc : c = 32
    · subst hc
      simp at h
      obtain rfl : o = 0 := by omega
      exact ⟨by simp, by simp [cut32]⟩
    · have := Lib.indexByte_ge r 32
      rw [if_neg (by simpa using hc)] at h
      split at h
      · omega
      · rename_i h1
        have h1' : Lib.indexByte r 32 ≠ -1 := by simpa using h1
        obtain ⟨o', rfl⟩ : ∃ o', o = o' + 1 := ⟨o - 1, by omega⟩
        obtain ⟨h2, h3⟩ := cut32_some (l := r) (o := o') (by omega)
        exact ⟨by simpa using h2, by rw [cut32, if_neg hc, h3]; simp⟩
end Tr

theorem below_drewN {b : Nat} {w w' : World} (h : Below b w w') (n : Nat) : Below b w (w'.drewN n) := ⟨h.os, h.tape, h.output, h.size, h.block⟩
theorem below_drew {b : Nat} {w w' : World} (h : Below b w w') : Below b w w'.drew := ⟨h.os, h.tape, h.output, h.size, h.block⟩
theorem ret_cut {a b c d : ByteArray} {p q : Bool} (h1 : a = b) (h2 : c = d) (h3 : p = q) : Ending.returned (.tuple #[.string a, .string c, .bool p]) = .returned (.tuple #[.string b, .string d, .bool q]) := by rw [h1, h2, h3]

set_option maxHeartbeats 1000000 in
theorem liteCut_any (s : ByteArray) (hs : s.size ≤ maxLen) (w : World) :
    Calls Tryz.prog 153 #[.string s, .string ⟨#[32]⟩] w fun e w' => e = .returned (.tuple #[.string (S (Tr.cut32 s.data.toList).1), .string (S (Tr.cut32 s.data.toList).2.1), .bool (Tr.cut32 s.data.toList).2.2]) ∧ Below w.heap.size w w' := by
  have hi := Tryz.stringslite_Index_one s 32
  have hml : s.size ≤ 9223372036854775807 := by unfold maxLen at hs; omega
  by_cases h : Lib.indexByte s.data.toList 32 = -1
  · have HC := Tr.cut32_none h
    have HC : Aside (Tr.cut32 s.data.toList = (s.data.toList, [], false)) := HC
    rw [h] at hi
    clear h
    go_enter Tryz.func153, Tryz.ntmps153
    go_wp2_with (go_at_call 187; refine (hi _).mono ?_; rintro e w' ⟨rfl, hw'⟩; replace hw' := hw'.symm; subst hw')
    exact bodyPost_ret (v := .tuple #[.string s, .string ⟨#[]⟩, .bool false]) (by simp [results, Tryz.results153, go_sem]) rfl ⟨by rw [HC.out]; rfl, Below.refl _ _⟩
  · obtain ⟨o, ho⟩ : ∃ o : Nat, Lib.indexByte s.data.toList 32 = o := ⟨(Lib.indexByte s.data.toList 32).toNat, by have := Lib.indexByte_ge s.data.toList 32; omega⟩
    obtain ⟨hlt, hc⟩ := Tr.cut32_some ho
    have HC : Aside (Tr.cut32 s.data.toList = (s.data.toList.take o, s.data.toList.drop (o + 1), true)) := hc
    rw [ho] at hi
    have hos : o + 1 ≤ s.size := by rw [← str_len]; exact hlt
    have HL := str_len s
    have H1 : Aside (s.extract 0 o = S (s.data.toList.take o)) := by show _ = _; have := S_cut s.data.toList 0 o; simpa [S] using this
    have H2 : Aside (s.extract (o + 1) s.size = S (s.data.toList.drop (o + 1))) := by
      show _ = _
      have := S_cut s.data.toList (o + 1) s.size
      rw [List.take_of_length_le (by simp)] at this
      simpa [S] using this
    clear h ho hlt hc HL
    have h0 : (0 : Int) ≤ (o : Int) := by omega
    have h1 : (o : Int) + 1 ≤ (s.size : Int) := by omega
    have h2 : (o : Int) ≤ (s.size : Int) := by omega
    go_enter Tryz.func153, Tryz.ntmps153
    go_wp2_with (go_at_call 187; refine (hi _).mono ?_; rintro e w' ⟨rfl, hw'⟩; replace hw' := hw'.symm; subst hw')
    go_quiet (fail)
    go_wp2_with fail
    go_ret3
    rw [HC.out]
    exact ⟨ret_cut H1.out H2.out rfl, below_drewN (Below.refl _ _) _⟩

set_option maxHeartbeats 1000000 in
theorem cut_any (s : ByteArray) (hs : s.size ≤ maxLen) (w : World) :
    Calls Tryz.prog 101 #[.string s, .string ⟨#[32]⟩] w fun e w' => e = .returned (.tuple #[.string (S (Tr.cut32 s.data.toList).1), .string (S (Tr.cut32 s.data.toList).2.1), .bool (Tr.cut32 s.data.toList).2.2]) ∧ Below w.heap.size w w' := by
  go_enter Tryz.func101, Tryz.ntmps101
  go_wp2_with (go_at_call 153; refine (liteCut_any _ hs _).mono ?_; rintro e w' ⟨rfl, hB⟩)
  go_ret3
  exact ⟨rfl, hB⟩
end Go.Proofs.YtpikfdkgblghhaaGreatDoor
