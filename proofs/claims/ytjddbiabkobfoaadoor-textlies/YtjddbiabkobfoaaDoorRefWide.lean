/- The document's WideBytes: the bytes, and a spare behind them. -/
import Derived.Test.YtjddbiabkobfoaaDoorRefSpare
namespace Go.Proofs.YtjddbiabkobfoaaDoor
open Go.RowKit
set_option maxRecDepth 100000

theorem set_facts {w : World} {g : Nat} {cur : Array Value} {T : TypeId} (h : w.heap[g]? = some (.cells cur T (0, 0))) {k : Nat} (hk : k < cur.size) (x : Value) : ∃ cur', (w.setCell ⟨g, k, none⟩ x).heap[g]? = some (.cells cur' T (0, 0)) ∧ cur'.size = cur.size ∧ cur'[k]? = some x ∧ ∀ j, j ≠ k → cur'[j]? = cur[j]? := by
  refine ⟨cur.setIfInBounds k x, by simp [World.setCell, Array.getElem?_modify, h], by simp, by simp [hk], fun j hj => by rw [Array.getElem?_setIfInBounds_ne (Ne.symm hj)]⟩

/-- The byte that WideBytes lays at a place. -/
def wdB (bs : List UInt8) (i : Nat) : Int := if i < bs.length then Tx.B bs i else spB i

set_option maxHeartbeats 2000000 in
theorem wideBytes_any (w : World) (b off cap : Nat) (bs : List UInt8) (hl : bs.length ≤ 2147483647) (hb : b < w.heap.size) (hc : Lies w b off bs) :
    Calls Tryd.prog 11 #[.slice (some ⟨b, off, none⟩) bs.length cap] w fun e w' => e = .returned (.slice (some ⟨w.heap.size, 0, none⟩) bs.length (bs.length + 64)) ∧ Lies w' w.heap.size 0 bs ∧ Spare w' w.heap.size 0 bs.length ∧ w.heap.size < w'.heap.size ∧ (∃ cur, w'.heap[w.heap.size]? = some (.cells cur 5 (0, 0)) ∧ cur.size = bs.length + 64) ∧ Below w.heap.size w w' := by
  obtain ⟨i0, hi, hz0, hz1, hz2⟩ := info_parts info5
  go_enter Tryd.func11, Tryd.ntmps11
  go_wp2_with (at_make; refine wpList_make_full _ rfl _ _ 22 rfl w.heap.size 5 i0 (.int .u8 0) 1 ty22 hi hz0 hz1 _ _ _ _ (bs.length + 64) rfl rfl (by go_num) (by go_num) (by rw [hz2]; omega) (by unfold maxLen; omega) (Nat.le_refl _) ?_; intro w1 hown1 hg1)
  obtain ⟨cur0, hc0, hs0⟩ : ∃ cur, w1.heap[w.heap.size]? = some (.cells cur 5 (0, 0)) ∧ cur.size = bs.length + 64 := by
    obtain ⟨_, ⟨h, _⟩ | ⟨g, cap, cur, h, _, hh, _, _, hs, _⟩⟩ := hown1
    · cases h
    · cases h; exact ⟨cur, hh, by omega⟩
  have hB1 : Below w.heap.size w w1 := ⟨hg1.os, hg1.tape, hg1.output, hg1.size, fun k hk => hg1.block k hk (by simp)⟩
  clear hown1 hg1
  go_loopg [4] (bs.length + 64) (fun m cv wr => ∃ (k : Nat) (cur : Array Value), k + m = bs.length + 64 ∧ cv = .int .i64 k ∧ wr.heap[w.heap.size]? = some (.cells cur 5 (0, 0)) ∧ cur.size = bs.length + 64 ∧ (∀ j, j < k → cur[j]? = some (.int .u8 (wdB bs j))) ∧ Below w.heap.size w wr)
  case atStart => exact ⟨0, cur0, by omega, rfl, hc0, hs0, fun j hj => by omega, hB1⟩
  case round =>
    obtain ⟨k, cur, hkg, rfl, hcur, hcs, hcj, hB⟩ := hrel
    have hgl : w.heap.size < wr.heap.size := (Array.getElem?_eq_some_iff.1 hcur).1
    have hk0 : (0 : Int) ≤ (k : Int) := by omega
    by_cases hk : k < bs.length + 64
    · have hk2 : (k : Int) < (bs.length : Int) + 64 := by omega
      have hfz : wr.frozen? ⟨w.heap.size, k, none⟩ = false := by simp [World.frozen?, hcur]
      obtain ⟨u, hu⟩ : ∃ u, cur[k]? = some u := ⟨cur[k]'(by omega), Array.getElem?_eq_getElem (by omega)⟩
      have hold : wr.cell? ⟨w.heap.size, k, none⟩ = some u := by simp [World.cell?, hcur, hu]
      have hset : ∀ x : Value, ∃ cur', (wr.setCell ⟨w.heap.size, k, none⟩ x).heap[w.heap.size]? = some (.cells cur' 5 (0, 0)) ∧ cur'.size = cur.size ∧ cur'[k]? = some x ∧ ∀ j, j ≠ k → cur'[j]? = cur[j]? := fun x => set_facts hcur (by omega) x
      by_cases hkl : k < bs.length
      · have hkl' : (k : Int) < (bs.length : Int) := by omega
        have hck := (hB.cell (p := ⟨b, off + k, none⟩) hb).trans (hc k hkl)
        have HW : Aside (wdB bs k = Tx.B bs k) := by show _ = _; unfold wdB; rw [if_pos hkl]
        generalize Tx.B bs k = q at *
        clear hc
        obtain ⟨cur', e1, e2, e3, e4⟩ := hset (.int .u8 q)
        have hB' : Below w.heap.size w (wr.setCell ⟨w.heap.size, k, none⟩ (.int .u8 q)) := hB.setCell (p := ⟨w.heap.size, k, none⟩) (Nat.le_refl _) _
        clear hset
        go_wp2_with fail
        go_roundg (gk - 1)
        case measure => omega
        case rel =>
          refine ⟨k + 1, cur', by omega, by go_num, e1, by omega, fun j hj => ?_, hB'⟩
          by_cases h : j = k
          · subst h; rw [e3, HW.out]
          · rw [e4 j h]; exact hcj j (by omega)
      · have hkl' : decide ((k : Int) < (bs.length : Int)) = false := by simp; omega
        have HW : Aside (wdB bs k = IntKind.u8.wrap (279 + 7 * (k : Int) + 3)) := by show _ = _; unfold wdB spB; rw [if_neg hkl]
        clear hc
        obtain ⟨cur', e1, e2, e3, e4⟩ := hset (.int .u8 (IntKind.u8.wrap (279 + 7 * (k : Int) + 3)))
        have hB' : Below w.heap.size w (wr.setCell ⟨w.heap.size, k, none⟩ (.int .u8 (IntKind.u8.wrap (279 + 7 * (k : Int) + 3)))) := hB.setCell (p := ⟨w.heap.size, k, none⟩) (Nat.le_refl _) _
        clear hset
        go_wp2_with fail
        go_roundg (gk - 1)
        case measure => omega
        case rel =>
          refine ⟨k + 1, cur', by omega, by go_num, e1, by omega, fun j hj => ?_, hB'⟩
          by_cases h : j = k
          · subst h; rw [e3, HW.out]
          · rw [e4 j h]; exact hcj j (by omega)
    · have hk2 : decide ((k : Int) < (bs.length : Int) + 64) = false := by simp; omega
      have hn2 : (bs.length : Int) ≤ (bs.length : Int) + 64 := by omega
      clear hc
      go_wp2_with fail
      go_ret
      refine ⟨rfl, fun j hj => ?_, fun j h1 h2 => ?_, hgl, ⟨cur, hcur, hcs⟩, hB⟩
      · have := hcj j (by omega)
        unfold wdB at this
        rw [if_pos hj] at this
        simp [World.cell?, hcur, this]
      · have := hcj j (by omega)
        unfold wdB at this
        rw [if_neg (by omega)] at this
        simp [World.cell?, hcur, this]
end Go.Proofs.YtjddbiabkobfoaaDoor
