/- What the program's textByte takes: what stands for one byte of a text. -/
import Derived.Test.YtjddbiabkobfoaaDoorWord
namespace Go.Proofs.YtjddbiabkobfoaaDoor
open Go.RowKit

set_option maxHeartbeats 1000000 in
theorem textByte_any (w : World) (rb b off cap mb : Nat) (bs : List UInt8) (k ln st : Nat) (hR : Rdr w rb b off cap mb bs k ln st) (hk : k < bs.length) :
    Calls Tryd.prog 56 #[.pointer (some ⟨rb, 0, none⟩)] w fun e w' => e = .returned (.tuple #[.int .u8 (Tx.txb bs k).1, .bool (Tx.txb bs k).2.1]) ∧ Rdr w' rb b off cap mb bs (Tx.txb bs k).2.2 ln st ∧ w.grownBy w' (some rb) := by
  obtain ⟨c0, -, c2, -, -⟩ := hR.rd.c
  have f2 := hR.rd.f 2
  have cx := hR.cells k hk
  have hlen := hR.len
  have hk' : (k : Int) < (bs.length : Int) := by omega
  have hk0 : (0 : Int) ≤ (k : Int) := by omega
  by_cases h92 : (Tx.B bs k == 92) = true
  · have e92 : Tx.B bs k = 92 := by simpa using h92
    have hb92 : (Tx.B bs k == 92) = true := h92
    have n92 : (Tx.B bs k != 92) = false := by simp [e92]
    go_enter Tryd.func56, Tryd.ntmps56
    go_wp2_with fail
    clear h92 e92
    go_quiet (fail)
    go_wp2_with fail
    have hg1 := grownBy_set (rb := rb) (o := 2) (grownBy_drewN (grownBy_refl w (some rb)) nq) (Value.int IntKind.i64 (↑k + 1))
    have hR1 := hR.next hg1 (Rd.setAt hR.rd (k + 1) (by omega))
    generalize (w.drewN nq).setCell { block := rb, off := 2 } (Value.int IntKind.i64 (↑k + 1)) = w1 at *
    clear c0 c2 f2 cx
    obtain ⟨c0, -, c2, -, -⟩ := hR1.rd.c
    have f2 := hR1.rd.f 2
    by_cases hk1 : k + 1 < bs.length
    · have cx := hR1.cells (k + 1) hk1
      have hk1' : (k : Int) + 1 < (bs.length : Int) := by omega
      have hne : ((k : Int) + 1 == (bs.length : Int)) = false := by simp; omega
      by_cases h110 : (Tx.B bs (k + 1) == 110) = true
      · have HT : Aside (Tx.txb bs k = (10, true, k + 2)) := by show _ = _; simp [Tx.txb, hb92, hk1, h110]
        go_quiet (fail)
        go_wp2_with fail
        go_quiet (fail)
        go_wp2_with fail
        go_ret2
        rw [HT.out]
        exact ⟨rfl, hR1.next (grownBy_set (grownBy_drewN (grownBy_refl _ _) _) _) (Rd.setAt hR1.rd (k + 2) (by omega)), grownBy_set (grownBy_drewN hg1 _) _⟩
      · have h110' : (Tx.B bs (k + 1) == 110) = false := by simpa using h110
        have HT : Aside (Tx.txb bs k = (Tx.B bs (k + 1), Tx.B bs (k + 1) == 34 || Tx.B bs (k + 1) == 92, k + 2)) := by show _ = _; simp [Tx.txb, hb92, hk1, h110']
        clear h110
        go_quiet (fail)
        go_wp2_with fail
        go_quiet (fail)
        by_cases h34 : (Tx.B bs (k + 1) == 34) = true
        · go_wp2
          go_ret2
          rw [HT.out]
          refine ⟨?_, hR1.next (grownBy_set (grownBy_drewN (grownBy_refl _ _) _) _) (Rd.setAt hR1.rd (k + 2) (by omega)), grownBy_set (grownBy_drewN hg1 _) _⟩
          simp [h34]
        · have h34' : (Tx.B bs (k + 1) == 34) = false := by simpa using h34
          clear h34
          go_wp2
          go_ret2
          rw [HT.out]
          refine ⟨?_, hR1.next (grownBy_set (grownBy_drewN (grownBy_refl _ _) _) _) (Rd.setAt hR1.rd (k + 2) (by omega)), grownBy_set (grownBy_drewN hg1 _) _⟩
          simp [h34']
    · have he : ((k : Int) + 1 == (bs.length : Int)) = true := by simp; omega
      have HT : Aside (Tx.txb bs k = (0, false, k + 1)) := by show _ = _; simp [Tx.txb, hb92, hk1]
      go_quiet (fail)
      go_wp2
      go_ret2
      rw [HT.out]
      exact ⟨rfl, hR1.next (grownBy_drewN (grownBy_refl _ _) _) (hR1.rd.drewN _), grownBy_drewN hg1 _⟩
  · have n92 : (Tx.B bs k != 92) = true := by simpa using h92
    have HT : Aside (Tx.txb bs k = (Tx.B bs k, Tx.seenB (Tx.B bs k), k + 1)) := by show _ = _; simp [Tx.txb, h92]
    clear h92
    go_enter Tryd.func56, Tryd.ntmps56
    go_wp2_with fail
    go_quiet (fail)
    go_wp2_with (go_at_call 48; refine (isSeen_any _ _).mono ?_; rintro e w' ⟨rfl, rfl⟩)
    go_ret2
    rw [HT.out]
    exact ⟨rfl, hR.next (grownBy_set (grownBy_drewN (grownBy_refl _ _) _) _) (Rd.setAt hR.rd (k + 1) (by omega)), grownBy_set (grownBy_drewN (grownBy_refl _ _) _) _⟩
end Go.Proofs.YtjddbiabkobfoaaDoor
