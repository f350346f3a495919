/- What the document's Arity, behind, Check and Make answer. -/
import Derived.Test.YtgkmoifibcmooaaDoorMake
namespace Go.Proofs.YtgkmoifibcmooaaDoor
open Go.RowKit
set_option maxRecDepth 100000

set_option maxRecDepth 100000 in
set_option maxHeartbeats 400000 in
theorem arity_any (c : Int) (w : World) :
    Calls Tryd.prog 18 #[.int .u8 c] w fun e w' => e = .returned (.int .i64 (Tp.ar c)) ∧ w' = w := by
  go_enter Tryd.func18, Tryd.ntmps18
  go_wp2
  all_goals
    go_ret
    refine ⟨ret_int ?_, rfl⟩
    unfold Tp.ar
    simp_all

theorem beh_ret {l : List UInt8} {k : Nat} {g : Bool} (h : Tp.beh l 1 = (k, g)) {w w' : World} (hw : w' = w) {e : Ending} (he : e = .returned (.tuple #[.int .i64 (k : Int), .bool g])) : e = .returned (.tuple #[.int .i64 (Tp.beh l 1).1, .bool (Tp.beh l 1).2]) ∧ w' = w := by
  rw [h]; exact ⟨he, hw⟩

set_option maxRecDepth 100000 in
set_option maxHeartbeats 1000000 in
theorem behind_any (s : ByteArray) (hsz : s.size ≤ 64) (w : World) :
    Calls Tryd.prog 48 #[.string s, .int .i64 0] w fun e w' => e = .returned (.tuple #[.int .i64 (Tp.beh s.data.toList 1).1, .bool (Tp.beh s.data.toList 1).2]) ∧ w' = w := by
  have HL : Aside (s.data.toList.length = s.size) := str_len s
  go_enter Tryd.func48, Tryd.ntmps48
  go_wp2_with fail
  go_loopg [1, 6] (s.size + 1) (fun g t mv wr => wr = w ∧ ∃ k m : Nat, k + g = s.size + 1 ∧ t = .int .i64 k ∧ mv = .int .i64 m ∧ m ≤ k + 1 ∧ Aside (Tp.Sofar s.data.toList k m))
  case atStart => exact ⟨rfl, 0, 1, by omega, rfl, rfl, by omega, Tp.Sofar.start _⟩
  case round =>
    obtain ⟨rfl, k, m, hkg, rfl, rfl, hmk, HS⟩ := hrel
    cases m with
    | zero =>
      have HN : Aside (Tp.beh s.data.toList 1 = (k, true)) := HS.out.zero
      go_wp2_with fail
      go_ret2
      exact beh_ret HN.out rfl rfl
    | succ m =>
      have hm0 : (0 : Int) < (((m + 1 : Nat) : Int)) := by omega
      by_cases hk : k < s.size
      · have hk' : (k : Int) < (s.size : Int) := by omega
        have hk2 : decide ((s.size : Int) ≤ (k : Int)) = false := by simp; omega
        have hBk := str_B s k hk
        have hk0 : (0 : Int) ≤ (k : Int) := by omega
        have had := Tp.ar_bd (Tp.B s.data.toList k)
        have hkl : k < s.data.toList.length := by rw [HL.out]; exact hk
        by_cases ha : Tp.ar (Tp.B s.data.toList k) < 0
        · have HN : Aside (Tp.beh s.data.toList 1 = (k, false)) := HS.out.bad hkl ha
          go_wp2_with (go_at_call 18; refine (arity_any _ _).mono ?_; rintro e w' ⟨rfl, rfl⟩)
          go_ret2
          exact beh_ret HN.out rfl rfl
        · have ha' : 0 ≤ Tp.ar (Tp.B s.data.toList k) := by omega
          have HT : Aside (Tp.Sofar s.data.toList (k + 1) (m + (Tp.ar (Tp.B s.data.toList k)).toNat)) := HS.out.step hkl ha'
          have had' : decide (Tp.ar (Tp.B s.data.toList k) < 0) = false := by simpa using ha'
          go_wp2_with (go_at_call 18; refine (arity_any _ _).mono ?_; rintro e w' ⟨rfl, rfl⟩)
          go_roundg (gk - 1)
          case measure => omega
          case rel => exact ⟨rfl, k + 1, m + (Tp.ar (Tp.B s.data.toList k)).toNat, by omega, by go_num, by go_num, by omega, HT⟩
      · have hk2 : (s.size : Int) ≤ (k : Int) := by omega
        have HN : Aside (Tp.beh s.data.toList 1 = (k, false)) := by
          have h1 : ∀ j, s.data.toList.length ≤ j → s.data.toList.drop j = [] := fun j hj => List.drop_eq_nil_of_le hj
          have := HS.out
          unfold Tp.Sofar at this
          show _ = _
          rw [this, h1 k (by rw [HL.out]; omega)]
          rfl
        go_wp2_with fail
        go_ret2
        exact beh_ret HN.out rfl rfl

set_option maxRecDepth 100000 in
set_option maxHeartbeats 1000000 in
theorem dcheck_any (s : ByteArray) (w : World) :
    Calls Tryd.prog 47 #[.string s] w fun e w' => e = .returned (.tuple #[.int .i64 (Tp.chk s.data.toList).1, .int .i64 (Tp.chk s.data.toList).2]) ∧ w' = w := by
  have hsl := str_len s
  by_cases h64 : 64 < s.size
  · have HN : Aside (Tp.chk s.data.toList = (21, 64)) := Tp.chk_long (by omega)
    have h64' : (64 : Int) < (s.size : Int) := by omega
    clear hsl
    go_enter Tryd.func47, Tryd.ntmps47
    go_wp2_with fail
    go_ret2
    exact chk_ret HN.out rfl rfl
  · have h64' : decide ((64 : Int) < (s.size : Int)) = false := by simp; omega
    have hb := behind_any s (by omega)
    have hle := Tp.beh_le s.data.toList 1
    rw [hsl] at hle
    have H1 : Aside ((Tp.beh s.data.toList 1).2 = false ∨ (Tp.beh s.data.toList 1).1 ≠ s.data.toList.length → Tp.chk s.data.toList = (20, (Tp.beh s.data.toList 1).1)) := fun h => Tp.chk_bad (by omega) h
    have H2 : Aside (Tp.beh s.data.toList 1 = (s.data.toList.length, true) → Tp.chk s.data.toList = (0, 0)) := fun h => Tp.chk_good (by omega) h
    have HL : Aside (s.data.toList.length = s.size) := hsl
    clear hsl
    cases hg : (Tp.beh s.data.toList 1).2 with
    | false =>
      have HN : Aside (Tp.chk s.data.toList = (20, (Tp.beh s.data.toList 1).1)) := H1.out (.inl hg)
      rw [hg] at hb
      clear hg
      generalize (Tp.beh s.data.toList 1).1 = k at *
      go_enter Tryd.func47, Tryd.ntmps47
      go_wp2_with (go_at_call 48; refine (hb _).mono ?_; rintro e w' ⟨rfl, rfl⟩)
      go_ret2
      exact chk_ret HN.out rfl rfl
    | true =>
      rw [hg] at hb
      by_cases hlt : (Tp.beh s.data.toList 1).1 < s.size
      · have HN : Aside (Tp.chk s.data.toList = (20, (Tp.beh s.data.toList 1).1)) := H1.out (.inr (by rw [HL.out]; omega))
        have hlt' : ((Tp.beh s.data.toList 1).1 : Int) < (s.size : Int) := by omega
        clear hg
        generalize (Tp.beh s.data.toList 1).1 = k at *
        go_enter Tryd.func47, Tryd.ntmps47
        go_wp2_with (go_at_call 48; refine (hb _).mono ?_; rintro e w' ⟨rfl, rfl⟩)
        go_ret2
        exact chk_ret HN.out rfl rfl
      · have HN : Aside (Tp.chk s.data.toList = (0, 0)) := H2.out (Prod.ext (by rw [HL.out]; show (Tp.beh s.data.toList 1).1 = s.size; omega) hg)
        have hlt' : decide (((Tp.beh s.data.toList 1).1 : Int) < (s.size : Int)) = false := by simp; omega
        clear hg
        generalize (Tp.beh s.data.toList 1).1 = k at *
        go_enter Tryd.func47, Tryd.ntmps47
        go_wp2_with (go_at_call 48; refine (hb _).mono ?_; rintro e w' ⟨rfl, rfl⟩)
        go_ret2
        exact chk_ret HN.out rfl rfl

end Go.Proofs.YtgkmoifibcmooaaDoor
