/- What the program's Check, isType, endOf, Head, Static answer. -/
import Derived.Test.YtkmoeflodafoeaaGreatDoorUac
import Derived.Deep.LoopGhost
import Derived.Deep.QuietTactic
import Derived.BigQuiet
namespace Go.Proofs.YtkmoeflodafoeaaGreatDoor.T3
set_option maxRecDepth 100000
open Go.RowKit

theorem str_len (s : ByteArray) : s.data.toList.length = s.size := by rw [Array.length_toList]; rfl
theorem str_B (s : ByteArray) (k : Nat) (h : k < s.size) : ((s[k]'h).toNat : Int) = Tp.B s.data.toList k := by
  unfold Tp.B
  have h' : k < s.data.toList.length := by simpa using h
  rw [List.getElem?_eq_getElem h']
  rfl

namespace Tp
theorem drop_B {l : List UInt8} {k : Nat} (h : k < l.length) : ∃ c : UInt8, l.drop k = c :: l.drop (k + 1) ∧ (c.toNat : Int) = B l k := by
  refine ⟨l[k], List.drop_eq_getElem_cons h, ?_⟩
  unfold B
  rw [List.getElem?_eq_getElem h]
  rfl
/-- So far m types are still to come. -/
def Sofar (l : List UInt8) (k m : Nat) : Prop := beh l 1 = (k + (beh (l.drop k) m).1, (beh (l.drop k) m).2)
theorem Sofar.start (l : List UInt8) : Sofar l 0 1 := by unfold Sofar; simp
theorem Sofar.step {l : List UInt8} {k m : Nat} (h : Sofar l k (m + 1)) (hk : k < l.length) (ha : 0 ≤ ar (B l k)) : Sofar l (k + 1) (m + (ar (B l k)).toNat) := by
  unfold Sofar at *
  obtain ⟨c, hd, hc⟩ := drop_B hk
  rw [h, hd, beh_cons _ _ _ (by rw [hc]; exact ha), hc]
  simp; omega
theorem Sofar.zero {l : List UInt8} {k : Nat} (h : Sofar l k 0) : beh l 1 = (k, true) := by unfold Sofar at h; rw [h, beh_zero]; rfl
theorem Sofar.bad {l : List UInt8} {k m : Nat} (h : Sofar l k (m + 1)) (hk : k < l.length) (ha : ar (B l k) < 0) : beh l 1 = (k, false) := by
  unfold Sofar at h
  obtain ⟨c, hd, hc⟩ := drop_B hk
  rw [h, hd, beh, if_pos (by rw [hc]; exact ha)]
  rfl
theorem Sofar.early {l : List UInt8} {m : Nat} (h : Sofar l l.length (m + 1)) : beh l 1 = (l.length, false) := by
  unfold Sofar at h
  rw [h, List.drop_length]
  rfl
end Tp

theorem chk_ret {l : List UInt8} {a b : Nat} (h : Tp.chk l = (a, b)) {w w' : World} (hw : w' = w) {e : Ending} (he : e = .returned (.tuple #[.int .i64 (a : Int), .int .i64 (b : Int)])) : e = .returned (.tuple #[.int .i64 (Tp.chk l).1, .int .i64 (Tp.chk l).2]) ∧ w' = w := by
  rw [h]; exact ⟨he, hw⟩

set_option maxHeartbeats 1000000 in
theorem check_any (s : ByteArray) (w : World) :
    Calls Tryz.prog 121 #[.string s] w fun e w' => e = .returned (.tuple #[.int .i64 (Tp.chk s.data.toList).1, .int .i64 (Tp.chk s.data.toList).2]) ∧ w' = w := by
  have hsl := str_len s
  by_cases h64 : 64 < s.size
  · have HN : Aside (Tp.chk s.data.toList = (21, 64)) := Tp.chk_long (by omega)
    have h64' : (64 : Int) < (s.size : Int) := by omega
    clear hsl
    go_enter Tryz.func121, Tryz.ntmps121
    go_wp2_with fail
    go_ret2
    exact chk_ret HN.out rfl rfl
  · have h64' : decide ((64 : Int) < (s.size : Int)) = false := by simp; omega
    have hsz : s.size ≤ 64 := by omega
    have HL : Aside (s.data.toList.length = s.size) := hsl
    clear hsl h64
    go_enter Tryz.func121, Tryz.ntmps121
    go_wp2_with fail
    go_loopg [4, 12] s.size (fun g mv t wr => wr = w ∧ ∃ k m : Nat, k + g = s.size ∧ t = .int .i64 k ∧ mv = .int .i64 m ∧ m ≤ k + 1 ∧ Aside (Tp.Sofar s.data.toList k m))
    case atStart => exact ⟨rfl, 0, 1, by omega, rfl, rfl, by omega, Tp.Sofar.start _⟩
    case round =>
      obtain ⟨rfl, k, m, hkg, rfl, rfl, hmk, HS⟩ := hrel
      by_cases hk : k < s.size
      · have hk' : (k : Int) < (s.size : Int) := by omega
        have hBk := str_B s k hk
        have hk0 : (0 : Int) ≤ (k : Int) := by omega
        have had := Tp.ar_bd (Tp.B s.data.toList k)
        have hkl : k < s.data.toList.length := by rw [HL.out]; exact hk
        cases m with
        | zero =>
          have HN : Aside (Tp.chk s.data.toList = (20, k)) := by
            have h0 := HS.out.zero
            show _ = _
            rw [Tp.chk_bad (by rw [HL.out]; omega) (.inr (by rw [h0, HL.out]; show k ≠ _; omega)), h0]
          go_wp2_with (go_at_call 161; refine (partsOf_any _ _).mono ?_; rintro e w' ⟨rfl, rfl⟩)
          go_ret2
          exact chk_ret HN.out rfl rfl
        | succ m =>
          have hm0 : ((((m + 1 : Nat) : Int)) == 0) = false := by simp; omega
          by_cases ha : Tp.ar (Tp.B s.data.toList k) < 0
          · have HN : Aside (Tp.chk s.data.toList = (20, k)) := by
              have h0 := HS.out.bad hkl ha
              show _ = _
              rw [Tp.chk_bad (by rw [HL.out]; omega) (.inl (by rw [h0])), h0]
            go_wp2_with (go_at_call 161; refine (partsOf_any _ _).mono ?_; rintro e w' ⟨rfl, rfl⟩)
            go_ret2
            exact chk_ret HN.out rfl rfl
          · have ha' : 0 ≤ Tp.ar (Tp.B s.data.toList k) := by omega
            have HT : Aside (Tp.Sofar s.data.toList (k + 1) (m + (Tp.ar (Tp.B s.data.toList k)).toNat)) := HS.out.step hkl ha'
            have had' : decide (Tp.ar (Tp.B s.data.toList k) < 0) = false := by simpa using ha'
            go_wp2_with (go_at_call 161; refine (partsOf_any _ _).mono ?_; rintro e w' ⟨rfl, rfl⟩)
            go_roundg (gk - 1)
            case measure => omega
            case rel => exact ⟨rfl, k + 1, m + (Tp.ar (Tp.B s.data.toList k)).toNat, by omega, by go_num, by go_num, by omega, HT⟩
      · have hk' : decide ((k : Int) < (s.size : Int)) = false := by simp; omega
        have hkn : k = s.size := by omega
        cases m with
        | zero =>
          have HN : Aside (Tp.chk s.data.toList = (0, 0)) := by
            have h0 := HS.out.zero
            show _ = _
            rw [Tp.chk_good (by rw [HL.out]; omega) (by rw [h0, HL.out, hkn])]
          go_wp2_with fail
          go_ret2
          exact chk_ret HN.out rfl rfl
        | succ m =>
          have hm0 : (0 : Int) < (((m + 1 : Nat) : Int)) := by omega
          have HN : Aside (Tp.chk s.data.toList = (20, s.size)) := by
            have h1 : Tp.Sofar s.data.toList s.data.toList.length (m + 1) := by have := HS.out; rw [hkn, ← HL.out] at this; exact this
            have h0 := h1.early
            show _ = _
            rw [Tp.chk_bad (by rw [HL.out]; omega) (.inl (by rw [h0])), h0, HL.out]
          go_wp2_with fail
          go_ret2
          exact chk_ret HN.out rfl rfl
end Go.Proofs.YtkmoeflodafoeaaGreatDoor.T3
