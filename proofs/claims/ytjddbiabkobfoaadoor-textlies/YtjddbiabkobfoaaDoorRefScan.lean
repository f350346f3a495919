/- What the document's Behind, Further, Place and run answer. -/
import Derived.Test.YtjddbiabkobfoaaDoorTokAll
namespace Go.Proofs.YtjddbiabkobfoaaDoor
open Go.RowKit
namespace Tx
/-- The first place from one on at which neither a blank nor a remark stands. -/
def beh (bs : List UInt8) : Nat → Nat → Nat
  | 0, k => k
  | f + 1, k => if k < bs.length then (if B bs k == 35 then beh bs f (upTo notTen bs k) else if blankB (B bs k) then beh bs f (k + 1) else k) else k
def behind (bs : List UInt8) (k : Nat) : Nat := beh bs (bs.length - k) k
theorem beh_end {bs : List UInt8} {f k : Nat} (h : bs.length ≤ k) : beh bs f k = k := by
  cases f with
  | zero => rfl
  | succ f => unfold beh; rw [if_neg (by omega)]
theorem beh_remark {bs : List UInt8} {f k : Nat} (hk : k < bs.length) (h : (B bs k == 35) = true) : beh bs (f + 1) k = beh bs f (upTo notTen bs k) := by simp only [beh, hk, h, if_true]
theorem beh_blank {bs : List UInt8} {f k : Nat} (hk : k < bs.length) (h : (B bs k == 35) = false) (h2 : blankB (B bs k) = true) : beh bs (f + 1) k = beh bs f (k + 1) := by simp [beh, hk, h, h2]
theorem beh_stop {bs : List UInt8} {f k : Nat} (hk : k < bs.length) (h : (B bs k == 35) = false) (h2 : blankB (B bs k) = false) : beh bs (f + 1) k = k := by simp [beh, hk, h, h2]
end Tx

/-- The bytes bs lie from a place in block b on. -/
def Lies (w : World) (b off : Nat) (bs : List UInt8) : Prop := ∀ j, j < bs.length → w.cell? ⟨b, off + j, none⟩ = some (.int .u8 (Tx.B bs j))

set_option maxRecDepth 100000 in
set_option maxHeartbeats 2000000 in
theorem behind_any (w : World) (b off cap : Nat) (bs : List UInt8) (hl : bs.length ≤ 65536) (hc : Lies w b off bs) (k0 : Nat) (hk0 : k0 ≤ bs.length) :
    Calls Tryd.prog 17 #[.slice (some ⟨b, off, none⟩) bs.length cap, .int .i64 k0] w fun e w' => e = .returned (.int .i64 (Tx.behind bs k0)) ∧ w' = w := by
  go_enter Tryd.func17, Tryd.ntmps17
  go_wp2_with fail
  go_loopg [1] (bs.length - k0) (fun g t wr => w = wr ∧ ∃ k : Nat, k ≤ bs.length ∧ bs.length - k ≤ g ∧ t = .int .i64 k ∧ Aside (Tx.beh bs g k = Tx.behind bs k0))
  case atStart => exact ⟨rfl, k0, hk0, Nat.le_refl _, rfl, rfl⟩
  case round =>
    obtain ⟨rfl, k, hk, hkg, rfl, HK⟩ := hrel
    have hkp : (0 : Int) ≤ (k : Int) := by omega
    by_cases hlt : k < bs.length
    · have hlt' : (k : Int) < (bs.length : Int) := by omega
      have cx := hc k hlt
      obtain ⟨g, rfl⟩ : ∃ g, gk = g + 1 := ⟨gk - 1, by omega⟩
      by_cases h35 : (Tx.B bs k == 35) = true
      · have HS : Aside (Tx.beh bs g (Tx.upTo Tx.notTen bs k) = Tx.behind bs k0) := (Tx.beh_remark hlt h35).symm.trans HK.out
        have hup := Tx.upTo_lt (p := Tx.notTen) hlt (by simp at h35; simp [Tx.notTen, h35])
        have hul := Tx.upTo_len Tx.notTen hk
        go_wp2_with fail
        go_loopg [1] (bs.length - k) (fun g2 t wr => w = wr ∧ ∃ j : Nat, j + g2 = bs.length ∧ t = .int .i64 j ∧ Aside (Tx.upTo Tx.notTen bs j = Tx.upTo Tx.notTen bs k))
        case atStart => exact ⟨rfl, k, by omega, rfl, rfl⟩
        case round =>
          obtain ⟨rfl, j, hjg, rfl, HJ⟩ := hrel
          have hj0 : (0 : Int) ≤ (j : Int) := by omega
          by_cases hjl : j < bs.length
          · have hjl' : (j : Int) < (bs.length : Int) := by omega
            have cj := hc j hjl
            by_cases h10 : Tx.B bs j = 10
            · have e10 : (Tx.B bs j != 10) = false := by simp [h10]
              have HO : Aside (Tx.upTo Tx.notTen bs k = j) := HJ.out.symm.trans (Tx.upTo_out (p := Tx.notTen) hjl (by simp [Tx.notTen, h10]))
              clear h10 cx h35
              go_wp2_with fail
              go_roundg g
              case measure => omega
              case rel => exact ⟨rfl, j, by omega, by have := HO.out; omega, rfl, by rw [← HO.out]; exact HS.out⟩
            · have e10 : (Tx.B bs j != 10) = true := by simp [h10]
              have HO : Aside (Tx.upTo Tx.notTen bs (j + 1) = Tx.upTo Tx.notTen bs k) := (Tx.upTo_in (p := Tx.notTen) hjl (by simp [Tx.notTen, h10])).symm.trans HJ.out
              clear h10 cx h35
              go_wp2_with fail
              go_roundg (gk - 1)
              case measure => omega
              case rel => exact ⟨rfl, j + 1, by omega, by go_num, HO⟩
          · have hjl' : decide ((j : Int) < (bs.length : Int)) = false := by simp; omega
            have HO : Aside (Tx.upTo Tx.notTen bs k = j) := HJ.out.symm.trans (Tx.upTo_end (by omega))
            clear cx h35
            go_wp2_with fail
            go_roundg g
            case measure => omega
            case rel => exact ⟨rfl, j, by omega, by have := HO.out; omega, rfl, by rw [← HO.out]; exact HS.out⟩
      · have h35' : (Tx.B bs k == 35) = false := by simpa using h35
        clear h35
        have HBl : Aside (Tx.blankB (Tx.B bs k) = (Tx.B bs k == 9 || Tx.B bs k == 10 || Tx.B bs k == 13 || Tx.B bs k == 32)) := rfl
        have HS : Aside (Tx.blankB (Tx.B bs k) = true → Tx.beh bs g (k + 1) = Tx.behind bs k0) := fun hb => (Tx.beh_blank hlt h35' hb).symm.trans HK.out
        have HN : Aside (Tx.blankB (Tx.B bs k) = false → k = Tx.behind bs k0) := fun hb => (Tx.beh_stop hlt h35' hb).symm.trans HK.out
        generalize Tx.B bs k = c at *
        cases h9 : c == 9
        · cases h10 : c == 10
          · cases h13 : c == 13
            · cases h32 : c == 32
              · have HF : Aside (k = Tx.behind bs k0) := HN.out (by rw [HBl.out, h9, h10, h13, h32]; rfl)
                go_wp2_with fail
                go_ret
                rw [← HF.out]
                exact ⟨rfl, rfl⟩
              · have HF : Aside (Tx.beh bs g (k + 1) = Tx.behind bs k0) := HS.out (by rw [HBl.out, h9, h10, h13, h32]; rfl)
                go_wp2_with fail
                go_roundg g
                case measure => omega
                case rel => exact ⟨rfl, k + 1, by omega, by omega, by go_num, HF⟩
            · have HF : Aside (Tx.beh bs g (k + 1) = Tx.behind bs k0) := HS.out (by rw [HBl.out, h9, h10, h13]; rfl)
              go_wp2_with fail
              go_roundg g
              case measure => omega
              case rel => exact ⟨rfl, k + 1, by omega, by omega, by go_num, HF⟩
          · have HF : Aside (Tx.beh bs g (k + 1) = Tx.behind bs k0) := HS.out (by rw [HBl.out, h9, h10]; rfl)
            go_wp2_with fail
            go_roundg g
            case measure => omega
            case rel => exact ⟨rfl, k + 1, by omega, by omega, by go_num, HF⟩
        · have HF : Aside (Tx.beh bs g (k + 1) = Tx.behind bs k0) := HS.out (by rw [HBl.out, h9]; rfl)
          go_wp2_with fail
          go_roundg g
          case measure => omega
          case rel => exact ⟨rfl, k + 1, by omega, by omega, by go_num, HF⟩
    · have hlt' : ¬ (k : Int) < (bs.length : Int) := by omega
      have HF : Aside (k = Tx.behind bs k0) := (Tx.beh_end (by omega)).symm.trans HK.out
      go_wp2_with fail
      go_ret
      rw [← HF.out]
      exact ⟨rfl, rfl⟩
end Go.Proofs.YtjddbiabkobfoaaDoor
