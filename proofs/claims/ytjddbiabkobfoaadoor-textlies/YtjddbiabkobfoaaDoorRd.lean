/- The reader in memory: what its block holds, and what the program's passRemark, passBlanks and place do to it. -/
import Derived.Test.YtjddbiabkobfoaaDoorPred
import Derived.Deep.LoopGhost
import Derived.Deep.QuietTactic
import Derived.BigQuiet
namespace Go.Proofs.YtjddbiabkobfoaaDoor
open Go.RowKit

/-- The block rb holds a reader: the source, the words, how far it is, how many lines lie behind it, where its line begins. -/
def Rd (w : World) (rb : Nat) (sv m : Value) (at_ ln st : Nat) : Prop :=
  w.heap[rb]? = some (.cells #[sv, m, .int .i64 at_, .int .i64 ln, .int .i64 st] 58 (0, 0))

theorem Rd.c {w : World} {rb : Nat} {sv m : Value} {at_ ln st : Nat} (h : Rd w rb sv m at_ ln st) :
    w.cell? ⟨rb, 0, none⟩ = some sv ∧ w.cell? ⟨rb, 1, none⟩ = some m ∧ w.cell? ⟨rb, 2, none⟩ = some (.int .i64 at_) ∧ w.cell? ⟨rb, 3, none⟩ = some (.int .i64 ln) ∧ w.cell? ⟨rb, 4, none⟩ = some (.int .i64 st) := by
  unfold Rd at h
  simp [World.cell?, h]
theorem Rd.f {w : World} {rb : Nat} {sv m : Value} {at_ ln st : Nat} (h : Rd w rb sv m at_ ln st) (o : Nat) : w.frozen? ⟨rb, o, none⟩ = false := by
  unfold Rd at h
  simp [World.frozen?, h]
theorem Rd.lt {w : World} {rb : Nat} {sv m : Value} {at_ ln st : Nat} (h : Rd w rb sv m at_ ln st) : rb < w.heap.size := by
  unfold Rd at h
  exact (Array.getElem?_eq_some_iff.1 h).1
theorem Rd.drewN {w : World} {rb : Nat} {sv m : Value} {at_ ln st : Nat} (h : Rd w rb sv m at_ ln st) (n : Nat) : Rd (w.drewN n) rb sv m at_ ln st := h
theorem Rd.setAt {w : World} {rb : Nat} {sv m : Value} {at_ ln st : Nat} (h : Rd w rb sv m at_ ln st) {x : Int} (k : Nat) (hx : x = k) : Rd (w.setCell ⟨rb, 2, none⟩ (.int .i64 x)) rb sv m k ln st := by
  subst hx
  unfold Rd at *
  simp [World.setCell, Array.getElem?_modify, h]
theorem Rd.setLn {w : World} {rb : Nat} {sv m : Value} {at_ ln st : Nat} (h : Rd w rb sv m at_ ln st) {x : Int} (k : Nat) (hx : x = k) : Rd (w.setCell ⟨rb, 3, none⟩ (.int .i64 x)) rb sv m at_ k st := by
  subst hx
  unfold Rd at *
  simp [World.setCell, Array.getElem?_modify, h]
theorem Rd.setSt {w : World} {rb : Nat} {sv m : Value} {at_ ln st : Nat} (h : Rd w rb sv m at_ ln st) {x : Int} (k : Nat) (hx : x = k) : Rd (w.setCell ⟨rb, 4, none⟩ (.int .i64 x)) rb sv m at_ ln k := by
  subst hx
  unfold Rd at *
  simp [World.setCell, Array.getElem?_modify, h]

theorem grownBy_refl (w : World) (r : Option Nat) : w.grownBy w r := ⟨rfl, rfl, rfl, Nat.le_refl _, fun _ _ _ => rfl⟩
theorem grownBy_drewN {w w' : World} {r : Option Nat} (h : w.grownBy w' r) (n : Nat) : w.grownBy (w'.drewN n) r := ⟨h.os, h.tape, h.output, h.size, h.block⟩
theorem grownBy_trans {a b c : World} {r : Option Nat} (h : a.grownBy b r) (k : b.grownBy c r) : a.grownBy c r :=
  ⟨k.os.trans h.os, k.tape.trans h.tape, k.output.trans h.output, Nat.le_trans h.size k.size, fun i hi hne => (k.block i (Nat.lt_of_lt_of_le hi h.size) hne).trans (h.block i hi hne)⟩
theorem grownBy_set {a b : World} {rb o : Nat} (h : a.grownBy b (some rb)) (u : Value) : a.grownBy (b.setCell ⟨rb, o, none⟩ u) (some rb) :=
  grownBy_trans h ⟨rfl, rfl, rfl, by simp [World.setCell], fun k hk hne => Below.heap_setCell _ _ _ _ (by intro e; exact hne (by rw [e]))⟩
theorem grownBy_cell {a b : World} {rb : Nat} (h : a.grownBy b (some rb)) {p : Nat} {o : Nat} {v : Value} (hne : p ≠ rb) (hc : a.cell? ⟨p, o, none⟩ = some v) : b.cell? ⟨p, o, none⟩ = some v :=
  h.cell hc (by simpa using hne)

set_option maxHeartbeats 400000 in
theorem passRemark_any (w : World) (rb b off cap : Nat) (bs : List UInt8) (m : Value) (k ln st : Nat) (hR : Rd w rb (.slice (some ⟨b, off, none⟩) bs.length cap) m k ln st) (hk : k ≤ bs.length) (hl : bs.length ≤ 65536) (hne : b ≠ rb)
    (hc : ∀ j, j < bs.length → w.cell? ⟨b, off + j, none⟩ = some (.int .u8 (Tx.B bs j))) :
    Calls Tryd.prog 31 #[.pointer (some ⟨rb, 0, none⟩)] w fun e w' => e = .returned (.tuple #[]) ∧ Rd w' rb (.slice (some ⟨b, off, none⟩) bs.length cap) m (Tx.upTo Tx.notTen bs k) ln st ∧ w.grownBy w' (some rb) := by
  go_enter Tryd.func31, Tryd.ntmps31
  go_wp2
  go_loopg [] (bs.length - k) (fun g wr => ∃ j : Nat, j + g = bs.length ∧ Rd wr rb (.slice (some ⟨b, off, none⟩) bs.length cap) m j ln st ∧ w.grownBy wr (some rb) ∧ Aside (Tx.upTo Tx.notTen bs j = Tx.upTo Tx.notTen bs k))
  case atStart => exact ⟨k, by omega, hR, grownBy_refl _ _, rfl⟩
  case round =>
    obtain ⟨j, hjg, hRj, hgj, HA⟩ := hrel
    obtain ⟨c0, -, c2, -, -⟩ := hRj.c
    have f2 := hRj.f 2
    have hj0 : (0 : Int) ≤ (j : Int) := by omega
    by_cases hlt : j < bs.length
    · have cx := grownBy_cell hgj hne (hc j hlt)
      have hlt' : (j : Int) < (bs.length : Int) := by omega
      by_cases h10 : Tx.B bs j = 10
      · have ho := Tx.upTo_out (p := Tx.notTen) hlt (by simp [Tx.notTen, h10])
        have e10 : (Tx.B bs j != 10) = false := by simp [h10]
        have HO : Aside (Tx.upTo Tx.notTen bs j = j) := ho
        clear h10 ho hc
        go_wp2_with fail
        go_quiet (fail)
        go_wp2
        go_end0
        rw [← HA.out, HO.out]
        exact ⟨rfl, hRj.drewN _, grownBy_drewN hgj _⟩
      · have ho := Tx.upTo_in (p := Tx.notTen) hlt (by simp [Tx.notTen, h10])
        have e10 : (Tx.B bs j != 10) = true := by simp [h10]
        have HO : Aside (Tx.upTo Tx.notTen bs j = Tx.upTo Tx.notTen bs (j + 1)) := ho
        clear h10 ho hc
        go_wp2_with fail
        go_quiet (fail)
        go_wp2
        go_roundg (gk - 1)
        case measure => omega
        case rel => exact ⟨j + 1, by omega, Rd.setAt hRj (j + 1) (by omega), grownBy_set (grownBy_drewN hgj _) _, (HO.out.symm.trans HA.out)⟩
    · have hd : decide ((j : Int) < (bs.length : Int)) = false := by simp; omega
      go_wp2_with fail
      go_quiet (fail)
      go_wp2
      go_end0
      rw [← HA.out, Tx.upTo_end (by omega)]
      exact ⟨rfl, hRj.drewN _, grownBy_drewN hgj _⟩

set_option maxHeartbeats 1000000 in
theorem passBlanks_any (w : World) (rb b off cap : Nat) (bs : List UInt8) (m : Value) (k : Nat) (hR : Rd w rb (.slice (some ⟨b, off, none⟩) bs.length cap) m k (Tx.lnTo bs k) (Tx.stTo bs k)) (hk : k ≤ bs.length) (hl : bs.length ≤ 65536) (hne : b ≠ rb)
    (hc : ∀ j, j < bs.length → w.cell? ⟨b, off + j, none⟩ = some (.int .u8 (Tx.B bs j))) :
    Calls Tryd.prog 33 #[.pointer (some ⟨rb, 0, none⟩)] w fun e w' => e = .returned (.tuple #[]) ∧ Rd w' rb (.slice (some ⟨b, off, none⟩) bs.length cap) m (Tx.upTo Tx.blankB bs k) (Tx.lnTo bs (Tx.upTo Tx.blankB bs k)) (Tx.stTo bs (Tx.upTo Tx.blankB bs k)) ∧ w.grownBy w' (some rb) := by
  go_enter Tryd.func33, Tryd.ntmps33
  go_wp2
  go_loopg [] (bs.length - k) (fun g wr => ∃ j : Nat, j + g = bs.length ∧ Rd wr rb (.slice (some ⟨b, off, none⟩) bs.length cap) m j (Tx.lnTo bs j) (Tx.stTo bs j) ∧ w.grownBy wr (some rb) ∧ Aside (Tx.upTo Tx.blankB bs j = Tx.upTo Tx.blankB bs k))
  case atStart => exact ⟨k, by omega, hR, grownBy_refl _ _, rfl⟩
  case round =>
    obtain ⟨j, hjg, hRj, hgj, HA⟩ := hrel
    obtain ⟨c0, -, c2, c3, -⟩ := hRj.c
    have f2 := hRj.f 2
    have f3 := hRj.f 3
    have f4 := hRj.f 4
    have hj0 : (0 : Int) ≤ (j : Int) := by omega
    by_cases hlt : j < bs.length
    · have cx := grownBy_cell hgj hne (hc j hlt)
      have hlt' : (j : Int) < (bs.length : Int) := by omega
      by_cases hb : Tx.blankB (Tx.B bs j) = true
      · have ho := Tx.upTo_in (p := Tx.blankB) hlt hb
        have HO : Aside (Tx.upTo Tx.blankB bs j = Tx.upTo Tx.blankB bs (j + 1)) := ho
        have hln := Tx.lnTo_le bs j
        clear ho hc
        by_cases h10 : (Tx.B bs j == 10) = true
        · have HL : Aside (Tx.lnTo bs (j + 1) = Tx.lnTo bs j + 1 ∧ Tx.stTo bs (j + 1) = j + 1) := ⟨by simp [Tx.lnTo, h10], by simp [Tx.stTo, h10]⟩
          go_wp2_with fail
          go_quiet ((go_at_call 32; exact Calls.quiet_of_same (isBlank_any _ _)))
          go_wp2_with fail
          generalize hw1 : (wr.drewN nq).setCell { block := rb, off := 2 } (Value.int IntKind.i64 (↑j + 1)) = w1
          have hR1 : Rd w1 rb (.slice (some ⟨b, off, none⟩) bs.length cap) m (j + 1) (Tx.lnTo bs j) (Tx.stTo bs j) := by rw [← hw1]; exact Rd.setAt hRj (j + 1) (by omega)
          have hg1 : w.grownBy w1 (some rb) := by rw [← hw1]; exact grownBy_set (grownBy_drewN hgj _) _
          have cx1 : w1.cell? ⟨b, off + j, none⟩ = some (.int .u8 (Tx.B bs j)) := by rw [← hw1]; exact grownBy_cell (grownBy_set (grownBy_drewN (grownBy_refl wr _) _) _) hne cx
          clear hw1 c0 c2 c3 cx f2 f3 f4
          obtain ⟨c0, -, c2, c3, c4⟩ := hR1.c
          have f3 := hR1.f 3
          have f4 := hR1.f 4
          go_quiet (fail)
          go_wp2
          go_roundg (gk - 1)
          case measure => omega
          case rel => exact ⟨j + 1, by omega, by rw [HL.out.1, HL.out.2]; exact Rd.setSt (Rd.setLn hR1 _ (by omega)) _ (by omega), grownBy_set (grownBy_set (grownBy_drewN hg1 _) _) _, (HO.out.symm.trans HA.out)⟩
        · have h10' : (Tx.B bs j == 10) = false := by simpa using h10
          have HL : Aside (Tx.lnTo bs (j + 1) = Tx.lnTo bs j ∧ Tx.stTo bs (j + 1) = Tx.stTo bs j) := ⟨by simp [Tx.lnTo, h10'], by simp [Tx.stTo, h10']⟩
          clear h10
          go_wp2_with fail
          go_quiet ((go_at_call 32; exact Calls.quiet_of_same (isBlank_any _ _)))
          go_wp2_with fail
          generalize hw1 : (wr.drewN nq).setCell { block := rb, off := 2 } (Value.int IntKind.i64 (↑j + 1)) = w1
          have hR1 : Rd w1 rb (.slice (some ⟨b, off, none⟩) bs.length cap) m (j + 1) (Tx.lnTo bs j) (Tx.stTo bs j) := by rw [← hw1]; exact Rd.setAt hRj (j + 1) (by omega)
          have hg1 : w.grownBy w1 (some rb) := by rw [← hw1]; exact grownBy_set (grownBy_drewN hgj _) _
          have cx1 : w1.cell? ⟨b, off + j, none⟩ = some (.int .u8 (Tx.B bs j)) := by rw [← hw1]; exact grownBy_cell (grownBy_set (grownBy_drewN (grownBy_refl wr _) _) _) hne cx
          clear hw1 c0 c2 c3 cx f2 f3 f4
          obtain ⟨c0, -, c2, c3, c4⟩ := hR1.c
          go_quiet (fail)
          go_wp2
          go_roundg (gk - 1)
          case measure => omega
          case rel => exact ⟨j + 1, by omega, by rw [HL.out.1, HL.out.2]; exact hR1.drewN _, grownBy_drewN hg1 _, (HO.out.symm.trans HA.out)⟩
      · have hb' : Tx.blankB (Tx.B bs j) = false := by simpa using hb
        have ho := Tx.upTo_out (p := Tx.blankB) hlt hb'
        have HO : Aside (Tx.upTo Tx.blankB bs j = j) := ho
        clear ho hc hb
        go_wp2_with fail
        go_quiet ((go_at_call 32; exact Calls.quiet_of_same (isBlank_any _ _)))
        go_wp2
        go_end0
        rw [← HA.out, HO.out]
        exact ⟨rfl, hRj.drewN _, grownBy_drewN hgj _⟩
    · have hd : decide ((j : Int) < (bs.length : Int)) = false := by simp; omega
      go_wp2_with fail
      go_quiet ((go_at_call 32; exact Calls.quiet_of_same (isBlank_any _ _)))
      go_wp2
      go_end0
      rw [← HA.out, Tx.upTo_end (by omega)]
      exact ⟨rfl, hRj.drewN _, grownBy_drewN hgj _⟩

theorem Rd.kept {w w' : World} {rb : Nat} {sv m : Value} {at_ ln st : Nat} (h : Rd w rb sv m at_ ln st) (hg : w.grownBy w' none) : Rd w' rb sv m at_ ln st := by
  have := hg.block rb h.lt (by simp)
  unfold Rd at *
  rw [this, h]
theorem grownBy_none {w w' : World} {r : Option Nat} (hg : w.grownBy w' none) : w.grownBy w' r := ⟨hg.os, hg.tape, hg.output, hg.size, fun k hk _ => hg.block k hk (by simp)⟩

end Go.Proofs.YtjddbiabkobfoaaDoor
