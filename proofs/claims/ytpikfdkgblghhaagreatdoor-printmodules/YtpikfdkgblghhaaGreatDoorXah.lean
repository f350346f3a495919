/- What the program's types.Check and the document's IsType answer. -/
import Derived.Test.YtpikfdkgblghhaaGreatDoorXad
namespace Go.Proofs.YtpikfdkgblghhaaGreatDoor
open Go.RowKit
set_option maxRecDepth 100000

theorem str_Bp (s : ByteArray) (k : Nat) (h : k < s.size) : ((s[k]'h).toNat : Int) = Tp.B s.data.toList k := by
  unfold Tp.B
  have h' : k < s.data.toList.length := by simpa using h
  rw [List.getElem?_eq_getElem h']
  rfl
theorem chk_ret {l : List UInt8} {a b : Nat} (h : Tp.chk l = (a, b)) {w w' : World} (hw : w' = w) {e : Ending} (he : e = .returned (.tuple #[.int .i64 (a : Int), .int .i64 (b : Int)])) : e = .returned (.tuple #[.int .i64 (Tp.chk l).1, .int .i64 (Tp.chk l).2]) ∧ w' = w := by
  rw [h]; exact ⟨he, hw⟩

set_option maxHeartbeats 1000000 in
theorem check_any (s : ByteArray) (w : World) :
    Calls Tryz.prog 152 #[.string s] w fun e w' => e = .returned (.tuple #[.int .i64 (Tp.chk s.data.toList).1, .int .i64 (Tp.chk s.data.toList).2]) ∧ w' = w := by
  have hsl := str_len s
  by_cases h64 : 64 < s.size
  · have HN : Aside (Tp.chk s.data.toList = (21, 64)) := Tp.chk_long (by omega)
    have h64' : (64 : Int) < (s.size : Int) := by omega
    clear hsl
    go_enter Tryz.func152, Tryz.ntmps152
    go_wp2_with fail
    go_ret2
    exact chk_ret HN.out rfl rfl
  · have h64' : decide ((64 : Int) < (s.size : Int)) = false := by simp; omega
    have hsz : s.size ≤ 64 := by omega
    have HL : Aside (s.data.toList.length = s.size) := hsl
    clear hsl h64
    go_enter Tryz.func152, Tryz.ntmps152
    go_wp2_with fail
    go_loopg [4, 12] s.size (fun g mv t wr => wr = w ∧ ∃ k m : Nat, k + g = s.size ∧ t = .int .i64 k ∧ mv = .int .i64 m ∧ m ≤ k + 1 ∧ Aside (Tp.Sofar s.data.toList k m))
    case atStart => exact ⟨rfl, 0, 1, by omega, rfl, rfl, by omega, Tp.Sofar.start _⟩
    case round =>
      obtain ⟨rfl, k, m, hkg, rfl, rfl, hmk, HS⟩ := hrel
      by_cases hk : k < s.size
      · have hk' : (k : Int) < (s.size : Int) := by omega
        have hBk := str_Bp s k hk
        have hk0 : (0 : Int) ≤ (k : Int) := by omega
        have had := Tp.ar_bd (Tp.B s.data.toList k)
        have hkl : k < s.data.toList.length := by rw [HL.out]; exact hk
        cases m with
        | zero =>
          have HN : Aside (Tp.chk s.data.toList = (20, k)) := by
            have h0 := HS.out.zero
            show _ = _
            rw [Tp.chk_bad (by rw [HL.out]; omega) (.inr (by rw [h0, HL.out]; show k ≠ _; omega)), h0]
          go_wp2_with (go_at_call 186; refine (partsOf_any _ _).mono ?_; rintro e w' ⟨rfl, rfl⟩)
          go_ret2
          exact chk_ret HN.out rfl rfl
        | succ m =>
          have hm0 : ((((m + 1 : Nat) : Int)) == 0) = false := by simp; omega
          by_cases ha : Tp.ar (Tp.B s.data.toList k) < 0
          · have HN : Aside (Tp.chk s.data.toList = (20, k)) := by
              have h0 := HS.out.bad hkl ha
              show _ = _
              rw [Tp.chk_bad (by rw [HL.out]; omega) (.inl (by rw [h0])), h0]
            go_wp2_with (go_at_call 186; refine (partsOf_any _ _).mono ?_; rintro e w' ⟨rfl, rfl⟩)
            go_ret2
            exact chk_ret HN.out rfl rfl
          · have ha' : 0 ≤ Tp.ar (Tp.B s.data.toList k) := by omega
            have HT : Aside (Tp.Sofar s.data.toList (k + 1) (m + (Tp.ar (Tp.B s.data.toList k)).toNat)) := HS.out.step hkl ha'
            have had' : decide (Tp.ar (Tp.B s.data.toList k) < 0) = false := by simpa using ha'
            go_wp2_with (go_at_call 186; refine (partsOf_any _ _).mono ?_; rintro e w' ⟨rfl, rfl⟩)
            go_roundg (gk - 1)
            case measure => omega
            case rel => exact ⟨rfl, k + 1, m + (Tp.ar (Tp.B s.data.toList k)).toNat, by omega, by go_num, by go_num, by omega, HT⟩
      · have hk' : decide ((k : Int) < (s.size : Int)) = false := by simp; omega
        have hkn : k = s.size := by omega
        cases m with
        | zero =>
          have HN : Aside (Tp.chk s.data.toList = (0, 0)) := by
            have h0 := HS.out.zero
            show _ = _
            rw [Tp.chk_good (by rw [HL.out]; omega) (by rw [h0, HL.out, hkn])]
          go_wp2_with fail
          go_ret2
          exact chk_ret HN.out rfl rfl
        | succ m =>
          have hm0 : (0 : Int) < (((m + 1 : Nat) : Int)) := by omega
          have HN : Aside (Tp.chk s.data.toList = (20, s.size)) := by
            have h1 : Tp.Sofar s.data.toList s.data.toList.length (m + 1) := by have := HS.out; rw [hkn, ← HL.out] at this; exact this
            have h0 := h1.early
            show _ = _
            rw [Tp.chk_bad (by rw [HL.out]; omega) (.inl (by rw [h0])), h0, HL.out]
          go_wp2_with fail
          go_ret2
          exact chk_ret HN.out rfl rfl

/-- Is this text a type? -/
def typB (l : List UInt8) : Bool := (Tp.chk l).1 == 0
/-- Absent, or a type? -/
def noteB (l : List UInt8) : Bool := l.isEmpty || typB l

set_option maxHeartbeats 400000 in
theorem isType_any (s : ByteArray) (w : World) :
    Calls Tryz.prog 100 #[.string s] w fun e w' => e = .returned (.bool (typB s.data.toList)) ∧ w' = w := by
  go_enter Tryz.func100, Tryz.ntmps100
  go_wp2_with (go_at_call 152; refine (check_any _ _).mono ?_; rintro e w' ⟨rfl, rfl⟩)
  go_ret
  refine ⟨ret_bool ?_, rfl⟩
  unfold typB
  rw [Bool.eq_iff_iff]; simp
theorem str_empty (s : ByteArray) : s.toList.isEmpty = s.data.toList.isEmpty := by rw [ByteArray.toList_eq]

set_option maxHeartbeats 400000 in
theorem isAnn_any (s : ByteArray) (w : World) :
    Calls Tryz.prog 103 #[.string s] w fun e w' => e = .returned (.bool (noteB s.data.toList)) ∧ w' = w := by
  have HE : Aside (s.toList.isEmpty = s.data.toList.isEmpty) := str_empty s
  cases he : s.toList.isEmpty
  all_goals
    go_enter Tryz.func103, Tryz.ntmps103
    go_wp2_with (go_at_call 100; refine (isType_any _ _).mono ?_; rintro e w' ⟨rfl, rfl⟩)
    go_ret
    refine ⟨ret_bool ?_, rfl⟩
    unfold noteB
    rw [← HE.out, he]
    simp

/-- Where the type that begins at a letter ends; 0: there is none. -/
def tend (l : List UInt8) : Nat := if (Tp.beh l 1).2 then (Tp.beh l 1).1 else 0
set_option maxHeartbeats 1000000 in
theorem typeEnd_any (s : ByteArray) (hs : s.size ≤ 64) (w : World) :
    Calls Tryz.prog 117 #[.string s, .int .i64 0] w fun e w' => e = .returned (.int .i64 (tend s.data.toList)) ∧ w' = w := by
  have HL : Aside (s.data.toList.length = s.size) := str_len s
  go_enter Tryz.func117, Tryz.ntmps117
  go_wp2_with fail
  go_loopg [1, 5] (s.size + 1) (fun g t mv wr => wr = w ∧ ∃ k m : Nat, k + g = s.size + 1 ∧ k ≤ s.size ∧ t = .int .i64 k ∧ mv = .int .i64 m ∧ m ≤ k + 1 ∧ Aside (Tp.Sofar s.data.toList k m))
  case atStart => exact ⟨rfl, 0, 1, by omega, by omega, rfl, rfl, by omega, Tp.Sofar.start _⟩
  case round =>
    obtain ⟨rfl, k, m, hkg, hks, rfl, rfl, hmk, HS⟩ := hrel
    cases m with
    | zero =>
      have HN : Aside (tend s.data.toList = k) := by show _ = _; unfold tend; rw [HS.out.zero]; rfl
      go_wp2_with fail
      go_ret
      rw [HN.out]
      exact ⟨rfl, rfl⟩
    | succ m =>
      have hm0 : (0 : Int) < (((m + 1 : Nat) : Int)) := by omega
      by_cases hk : k < s.size
      · have hk' : decide ((s.size : Int) ≤ (k : Int)) = false := by simp; omega
        have hk'' : (k : Int) < (s.size : Int) := by omega
        have hk0 : (0 : Int) ≤ (k : Int) := by omega
        have hBk := str_Bp s k hk
        have hkl : k < s.data.toList.length := by rw [HL.out]; exact hk
        have HB : Aside (Tp.ar (Tp.B s.data.toList k) < 0 → tend s.data.toList = 0) := fun h => by unfold tend; rw [HS.out.bad hkl h]; rfl
        have HG : Aside (0 ≤ Tp.ar (Tp.B s.data.toList k) → Tp.Sofar s.data.toList (k + 1) (m + (Tp.ar (Tp.B s.data.toList k)).toNat)) := fun h => HS.out.step hkl h
        generalize Tp.B s.data.toList k = c at *
        clear hkl HS
        go_wp2_with fail
        all_goals first
          | (go_ret
             have hn : Tp.ar c < 0 := by unfold Tp.ar; simp_all
             rw [HB.out hn]
             exact ⟨rfl, rfl⟩)
          | skip
        all_goals
          go_roundg (gk - 1)
          case measure => omega
          case rel =>
            first
              | (have ha : Tp.ar c = 0 := by unfold Tp.ar; simp_all
                 have := HG.out (by omega)
                 rw [ha] at this
                 exact ⟨rfl, k + 1, m, by omega, by omega, by go_num, by go_num, by omega, this⟩)
              | (have ha : Tp.ar c = 1 := by unfold Tp.ar; simp_all
                 have := HG.out (by omega)
                 rw [ha] at this
                 exact ⟨rfl, k + 1, m + 1, by omega, by omega, by go_num, by go_num, by omega, this⟩)
              | (have ha : Tp.ar c = 2 := by unfold Tp.ar; simp_all
                 have := HG.out (by omega)
                 rw [ha] at this
                 exact ⟨rfl, k + 1, m + 2, by omega, by omega, by go_num, by go_num, by omega, this⟩)
      · have hk' : (s.size : Int) ≤ (k : Int) := by omega
        have HN : Aside (tend s.data.toList = 0) := by
          show _ = _
          have h1 : Tp.Sofar s.data.toList s.data.toList.length (m + 1) := by have := HS.out; rw [show k = s.data.toList.length by rw [HL.out]; omega] at this; exact this
          unfold tend; rw [h1.early]; rfl
        go_wp2_with fail
        go_ret
        rw [HN.out]
        exact ⟨rfl, rfl⟩
end Go.Proofs.YtpikfdkgblghhaaGreatDoor
