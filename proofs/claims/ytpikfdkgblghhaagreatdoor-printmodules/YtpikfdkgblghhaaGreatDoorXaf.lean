/- What the document's IsWord and IsName answer. -/
import Derived.Test.YtpikfdkgblghhaaGreatDoorXae
namespace Go.Proofs.YtpikfdkgblghhaaGreatDoor
open Go.RowKit
set_option maxRecDepth 100000

/-- Is a text one of a list? -/
def hasB (ws : List (List UInt8)) (l : List UInt8) : Bool := ws.contains l

theorem beq_bytes (a b : ByteArray) : (a.toList == b.toList) = (a.data.toList == b.data.toList) := by rw [ByteArray.toList_eq, ByteArray.toList_eq]

set_option maxHeartbeats 1000000 in
theorem in_any (w : World) (g cap : Nat) (ws : List (List UInt8)) (hlen : ws.length ≤ 1000) (s : ByteArray) (hc : ∀ j (h : j < ws.length), w.cell? ⟨g, j, none⟩ = some (.string ⟨(ws[j]'h).toArray⟩)) :
    Calls Tryz.prog 148 #[.slice (some ⟨g, 0, none⟩) ws.length cap, .string s] w fun e w' => e = .returned (.bool (hasB ws s.data.toList)) ∧ w' = w := by
  go_enter Tryz.func148, Tryz.ntmps148
  go_wp2_with fail
  go_loopg [5] ws.length (fun n t wr => wr = w ∧ ∃ k : Nat, k + n = ws.length ∧ t = .int .i64 k ∧ Aside (hasB ws s.data.toList = hasB (ws.drop k) s.data.toList))
  case atStart => exact ⟨rfl, 0, by omega, rfl, rfl⟩
  case round =>
    obtain ⟨rfl, k, hkg, rfl, HK⟩ := hrel
    by_cases hk : k < ws.length
    · have hk' : (k : Int) < (ws.length : Int) := by omega
      have hk0 : (0 : Int) ≤ (k : Int) := by omega
      have cx := hc k hk
      have hdr : hasB (ws.drop k) s.data.toList = ((ws[k] == s.data.toList) || hasB (ws.drop (k + 1)) s.data.toList) := by
        unfold hasB
        rw [List.drop_eq_getElem_cons hk, List.contains_cons]
        congr 1
        rw [Bool.eq_iff_iff]; simp; exact ⟨fun h => h.symm, fun h => h.symm⟩
      obtain ⟨x, hx⟩ : ∃ x : ByteArray, x = ⟨(ws[k]).toArray⟩ := ⟨_, rfl⟩
      have hxe : (x.toList == s.toList) = (ws[k] == s.data.toList) := by rw [beq_bytes, hx]
      rw [← hx] at cx
      clear hc hx
      cases hb : ws[k] == s.data.toList
      · rw [hb] at hxe hdr
        have HS : Aside (hasB ws s.data.toList = hasB (ws.drop (k + 1)) s.data.toList) := by rw [HK.out]; show _ = _; rw [hdr]; simp
        clear hb hdr
        go_wp2_with fail
        go_roundg (gk - 1)
        case measure => omega
        case rel => exact ⟨rfl, k + 1, by omega, by go_num, HS⟩
      · rw [hb] at hxe hdr
        have HS : Aside (hasB ws s.data.toList = true) := by rw [HK.out]; show _ = _; rw [hdr]; simp
        clear hb hdr
        go_wp2_with fail
        go_ret
        rw [HS.out]
        exact ⟨rfl, rfl⟩
    · have hk' : ¬ (k : Int) < (ws.length : Int) := by omega
      have HS : Aside (hasB ws s.data.toList = false) := by rw [HK.out]; show _ = _; rw [List.drop_eq_nil_of_le (by omega)]; rfl
      go_wp2_with fail
      go_ret
      rw [HS.out]
      exact ⟨rfl, rfl⟩

/-- Texts as cells. -/
def scells (ws : List (List UInt8)) : List Value := ws.map fun l => Value.string ⟨l.toArray⟩
theorem scells_cell (w : World) (ws : List (List UInt8)) (t : TypeId) (j : Nat) (h : j < ws.length) : (w.alloc (.cells (scells ws).toArray t)).cell? ⟨w.heap.size, j, none⟩ = some (.string ⟨(ws[j]'h).toArray⟩) := by
  rw [World.cell?_alloc_mark]
  unfold scells
  simp [List.getElem?_eq_getElem h]

set_option maxRecDepth 100000 in
set_option maxHeartbeats 400000 in
theorem Words_any (w : World) : Calls Tryz.prog 149 #[] w fun e w' => e = .returned (.slice (some ⟨w.heap.size, 0, none⟩) 23 23) ∧ w' = w.alloc (.cells (scells Tx.words).toArray 9) := by
  go_enter Tryz.func149, Tryz.ntmps149
  go_wp2_with fail
  go_ret
  exact ⟨rfl, rfl⟩

set_option maxHeartbeats 400000 in
theorem refIsWord_any (s : ByteArray) (w : World) :
    Calls Tryz.prog 93 #[.string s] w fun e w' => e = .returned (.bool (Tx.wordB s.data.toList)) ∧ Below w.heap.size w w' := by
  go_enter Tryz.func93, Tryz.ntmps93
  go_wp2_with fail
  refine (Words_any _).mono ?_
  rintro e w1 ⟨rfl, hw1⟩
  have hc := fun j h => scells_cell w Tx.words 9 j h
  rw [← hw1] at hc
  have hB : Below w.heap.size w w1 := by rw [hw1]; exact (Below.refl _ _).alloc (Nat.le_refl _) _
  clear hw1
  go_wp2_with fail
  refine (in_any w1 w.heap.size 23 Tx.words (by decide) s hc).mono ?_
  rintro e w2 ⟨rfl, rfl⟩
  go_wp2_with fail
  go_ret
  exact ⟨rfl, hB⟩

theorem nameB_word {l : List UInt8} (h : Tx.wordB l = true) : nameB l = false := by simp [nameB, h]

set_option maxHeartbeats 2000000 in
theorem refIsName_any (s : ByteArray) (hs : s.size ≤ maxLen) (w : World) :
    Calls Tryz.prog 70 #[.string s] w fun e w' => e = .returned (.bool (nameB s.data.toList)) ∧ Below w.heap.size w w' := by
  have hsl := str_len s
  have hml : s.size ≤ 9223372036854775807 := by unfold maxLen at hs; omega
  by_cases h0 : s.size < 1
  · have HN : Aside (nameB s.data.toList = false) := nameB_len (by omega)
    have he : (s.size : Int) < 1 := by omega
    clear hsl h0
    go_enter Tryz.func70, Tryz.ntmps70
    go_wp2_with fail
    go_ret
    rw [HN.out]
    exact ⟨rfl, Below.refl _ _⟩
  have he : decide ((s.size : Int) < 1) = false := by simp; omega
  by_cases h32 : 32 < s.size
  · have HN : Aside (nameB s.data.toList = false) := nameB_len (by omega)
    have h32' : (32 : Int) < (s.size : Int) := by omega
    clear hsl h0
    go_enter Tryz.func70, Tryz.ntmps70
    go_wp2_with fail
    go_ret
    rw [HN.out]
    exact ⟨rfl, Below.refl _ _⟩
  have h32' : decide ((32 : Int) < (s.size : Int)) = false := by simp; omega
  have hpos : 0 < s.size := by omega
  have hB0 := str_B s 0 hpos
  by_cases hlt : Tx.letterB (Tx.B s.data.toList 0) = true
  · cases hwd : Tx.wordB s.data.toList
    · have hsl32 : s.size ≤ 32 := by omega
      have HL : Aside (s.data.toList.length = s.size) := hsl
      have HW : Aside (Tx.wordB s.data.toList = false) := hwd
      clear hsl h0 h32
      go_enter Tryz.func70, Tryz.ntmps70
      go_wp2_with (first | (go_at_call 91; refine (letter_any _ _).mono ?_; rintro e w' ⟨rfl, hw'⟩; replace hw' := hw'.symm; subst hw') | (go_at_call 93; refine (refIsWord_any _ _).mono ?_; rintro e w1 ⟨rfl, hB1⟩))
      clear hwd
      go_loopg [3] s.size (fun g t wr => wr = w1 ∧ ∃ k : Nat, k + g = s.size ∧ t = .int .i64 k ∧ Aside (Tx.upTo Tx.innerB s.data.toList 0 = Tx.upTo Tx.innerB s.data.toList k))
      case atStart => exact ⟨rfl, 0, by omega, rfl, rfl⟩
      case round =>
        obtain ⟨rfl, k, hkg, rfl, HK⟩ := hrel
        by_cases hk : k < s.size
        · have hk' : (k : Int) < (s.size : Int) := by omega
          have hBk := str_B s k hk
          have hk0 : (0 : Int) ≤ (k : Int) := by omega
          have HI : Aside (Tx.innerB (Tx.B s.data.toList k) = (Tx.letterB (Tx.B s.data.toList k) || Tx.digitB (Tx.B s.data.toList k) || Tx.B s.data.toList k == 95)) := rfl
          have HU : Aside (Tx.innerB (Tx.B s.data.toList k) = true → Tx.upTo Tx.innerB s.data.toList k = Tx.upTo Tx.innerB s.data.toList (k + 1)) := fun h => Tx.upTo_in (by rw [HL.out]; exact hk) h
          have HV : Aside (Tx.innerB (Tx.B s.data.toList k) = false → nameB s.data.toList = false) := fun h => nameB_in (by rw [HK.out, Tx.upTo_out (by rw [HL.out]; exact hk) h, HL.out]; omega)
          generalize Tx.B s.data.toList k = c at *
          cases h1 : Tx.letterB c
          · cases h2 : Tx.digitB c
            · cases h3 : c == 95
              · have h3' : (c != 95) = true := by simpa using h3
                have HN : Aside (nameB s.data.toList = false) := HV.out (by rw [HI.out, h1, h2, h3]; rfl)
                go_wp2_with (first | (go_at_call 91; refine (letter_any _ _).mono ?_; rintro e w' ⟨rfl, hw'⟩; replace hw' := hw'.symm; subst hw') | (go_at_call 94; refine (digit_any _ _).mono ?_; rintro e w' ⟨rfl, hw'⟩; replace hw' := hw'.symm; subst hw'))
                go_ret
                rw [HN.out]
                exact ⟨rfl, hB1⟩
              · have h3' : (c != 95) = false := by simpa using h3
                have HS := HU.out (by rw [HI.out, h1, h2, h3]; rfl)
                have HS : Aside (_ = _) := HS
                go_wp2_with (first | (go_at_call 91; refine (letter_any _ _).mono ?_; rintro e w' ⟨rfl, hw'⟩; replace hw' := hw'.symm; subst hw') | (go_at_call 94; refine (digit_any _ _).mono ?_; rintro e w' ⟨rfl, hw'⟩; replace hw' := hw'.symm; subst hw'))
                go_roundg (gk - 1)
                case measure => omega
                case rel => exact ⟨rfl, k + 1, by omega, by go_num, HK.out.trans HS.out⟩
            · have HS := HU.out (by rw [HI.out, h1, h2]; rfl)
              have HS : Aside (_ = _) := HS
              go_wp2_with (first | (go_at_call 91; refine (letter_any _ _).mono ?_; rintro e w' ⟨rfl, hw'⟩; replace hw' := hw'.symm; subst hw') | (go_at_call 94; refine (digit_any _ _).mono ?_; rintro e w' ⟨rfl, hw'⟩; replace hw' := hw'.symm; subst hw'))
              go_roundg (gk - 1)
              case measure => omega
              case rel => exact ⟨rfl, k + 1, by omega, by go_num, HK.out.trans HS.out⟩
          · have HS := HU.out (by rw [HI.out, h1]; rfl)
            have HS : Aside (_ = _) := HS
            go_wp2_with (first | (go_at_call 91; refine (letter_any _ _).mono ?_; rintro e w' ⟨rfl, hw'⟩; replace hw' := hw'.symm; subst hw') | (go_at_call 94; refine (digit_any _ _).mono ?_; rintro e w' ⟨rfl, hw'⟩; replace hw' := hw'.symm; subst hw'))
            go_roundg (gk - 1)
            case measure => omega
            case rel => exact ⟨rfl, k + 1, by omega, by go_num, HK.out.trans HS.out⟩
        · have hk' : ¬ (k : Int) < (s.size : Int) := by omega
          have HN : Aside (nameB s.data.toList = true) := by
            have := nameB_is (l := s.data.toList) (by rw [HL.out]; exact hpos) (by rw [HL.out]; exact hsl32) hlt (by rw [HK.out, Tx.upTo_end (by rw [HL.out]; omega), HL.out]; omega)
            rw [HW.out] at this
            exact this
          go_wp2_with fail
          go_ret
          rw [HN.out]
          exact ⟨rfl, hB1⟩
    · have HN : Aside (nameB s.data.toList = false) := nameB_word hwd
      clear hsl h0 h32
      go_enter Tryz.func70, Tryz.ntmps70
      go_wp2_with (first | (go_at_call 91; refine (letter_any _ _).mono ?_; rintro e w' ⟨rfl, hw'⟩; replace hw' := hw'.symm; subst hw') | (go_at_call 93; refine (refIsWord_any _ _).mono ?_; rintro e w1 ⟨rfl, hB1⟩))
      go_ret
      rw [HN.out]
      exact ⟨rfl, hB1⟩
  · have hlt' : Tx.letterB (Tx.B s.data.toList 0) = false := by simpa using hlt
    have HN : Aside (nameB s.data.toList = false) := nameB_first hlt'
    clear hsl h0 h32 hlt
    go_enter Tryz.func70, Tryz.ntmps70
    go_wp2_with (go_at_call 91; refine (letter_any _ _).mono ?_; rintro e w' ⟨rfl, hw'⟩; replace hw' := hw'.symm; subst hw')
    go_ret
    rw [HN.out]
    exact ⟨rfl, Below.refl _ _⟩
end Go.Proofs.YtpikfdkgblghhaaGreatDoor
