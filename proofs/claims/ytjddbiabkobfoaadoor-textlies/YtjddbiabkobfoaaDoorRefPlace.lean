/- What the document's Further, Place and run answer. -/
import Derived.Test.YtjddbiabkobfoaaDoorRefScan
namespace Go.Proofs.YtjddbiabkobfoaaDoor
open Go.RowKit

/-- A place of a source, as a value. -/
def plV (bs : List UInt8) (k : Nat) : Value := .agg #[.int .i64 (Tx.lnTo bs k + 1), .int .i64 ((k : Int) - Tx.stTo bs k + 1)]
theorem plV_ten {bs : List UInt8} {k : Nat} (h : (Tx.B bs k == 10) = true) : plV bs (k + 1) = .agg #[.int .i64 ((Tx.lnTo bs k + 1 : Int) + 1), .int .i64 1] := by
  unfold plV
  rw [Tx.lnTo, Tx.stTo, h]
  simp
theorem plV_not {bs : List UInt8} {k : Nat} (h : (Tx.B bs k == 10) = false) : plV bs (k + 1) = .agg #[.int .i64 (Tx.lnTo bs k + 1), .int .i64 (((k : Int) - Tx.stTo bs k + 1) + 1)] := by
  unfold plV
  rw [Tx.lnTo, Tx.stTo, h]
  simp
  omega

theorem set1_block {W : World} {g : Nat} {a c y : Value} {t : TypeId} (h : W.heap[g]? = some (.cells #[a, c] t (0, 0))) : (W.setCell ⟨g, 1, none⟩ y).heap[g]? = some (.cells #[a, y] t (0, 0)) := by
  simp [World.setCell, Array.getElem?_modify, h]

set_option maxRecDepth 100000 in
set_option maxHeartbeats 2000000 in
theorem further_any (w : World) (b off cap : Nat) (bs : List UInt8) (hl : bs.length ≤ 65536) (hb : b < w.heap.size) (hc : Lies w b off bs) (i0 j0 : Nat) (h1 : i0 ≤ j0) (h2 : j0 ≤ bs.length) :
    Calls Tryd.prog 18 #[.slice (some ⟨b, off, none⟩) bs.length cap, plV bs i0, .int .i64 i0, .int .i64 j0] w fun e w' => e = .returned (plV bs j0) ∧ Below w.heap.size w w' := by
  unfold plV
  go_enter Tryd.func18, Tryd.ntmps18
  go_wp2_with fail
  go_loopg [9] (j0 - i0) (fun g t wr => Below w.heap.size w wr ∧ w.heap.size + 2 ≤ wr.heap.size ∧ wr.heap[w.heap.size + 1]? = some (.cells #[.int .i64 0, .int .i64 0] 29 (0, 0)) ∧ ∃ k : Nat, k + g = j0 ∧ t = .int .i64 k ∧ wr.heap[w.heap.size]? = some (.cells #[.int .i64 (Tx.lnTo bs k + 1), .int .i64 ((k : Int) - Tx.stTo bs k + 1)] 29 (0, 0)))
  case atStart =>
    refine ⟨((Below.refl _ _).alloc (Nat.le_refl _) _).alloc (by simp) _, by simp, ?_, i0, by omega, rfl, ?_⟩
    · have e : (w.alloc (.cells #[.int .i64 (Tx.lnTo bs i0 + 1), .int .i64 ((i0 : Int) - Tx.stTo bs i0 + 1)] 29)).heap.size = w.heap.size + 1 := by simp
      rw [← e]
      exact heap_alloc_new _ _
    · rw [Below.heap_alloc _ _ _ (by simp)]
      exact heap_alloc_new _ _
  case round =>
    obtain ⟨hB, hsz, hres, k, hkg, rfl, hp⟩ := hrel
    have hkp : (0 : Int) ≤ (k : Int) := by omega
    have hn := block_cells hp
    have d0 := hn.1 0
    have d1 := hn.1 1
    simp at d0 d1
    have d5 := hn.2
    clear hn
    by_cases hlt : k < j0
    · have hlt' : (k : Int) < (j0 : Int) := by omega
      have hlt2 : (k : Int) < (bs.length : Int) := by omega
      have cx := (hB.cell (p := ⟨b, off + k, none⟩) hb).trans (hc k (by omega))
      have hln := Tx.lnTo_le bs k
      have hst := Tx.stTo_le bs k
      cases h10 : Tx.B bs k == 10
      · have HL : Aside (Tx.lnTo bs (k + 1) = Tx.lnTo bs k) := by show _ = _; rw [Tx.lnTo, h10]; rfl
        have HT : Aside (Tx.stTo bs (k + 1) = Tx.stTo bs k) := by show _ = _; rw [Tx.stTo, h10]; rfl
        go_wp2_with fail
        go_roundg (gk - 1)
        case measure => omega
        case rel =>
          refine ⟨hB.grown (grownBy_set (grownBy_refl _ _) _) (by omega) (fun x e => by cases e; omega), by simpa [World.setCell] using hsz, ((grownBy_set (grownBy_refl _ (some w.heap.size)) _).block _ (by omega) (by simp)).trans hres, k + 1, by omega, by go_num, ?_⟩
          rw [HL.out, HT.out]
          rw [show (((k + 1 : Nat) : Int) - ↑(Tx.stTo bs k) + 1) = (k : Int) - ↑(Tx.stTo bs k) + 1 + 1 by omega]
          exact set1_block hp
      · have HL : Aside (Tx.lnTo bs (k + 1) = Tx.lnTo bs k + 1) := by show _ = _; rw [Tx.lnTo, h10]; rfl
        have HT : Aside (Tx.stTo bs (k + 1) = k + 1) := by show _ = _; rw [Tx.stTo, h10]; rfl
        go_wp2_with fail
        go_roundg (gk - 1)
        case measure => omega
        case rel =>
          refine ⟨hB.grown (grownBy_set2 _ _ _ _) (by omega) (fun x e => by cases e; omega), by simpa [World.setCell] using hsz, ((grownBy_set2 _ w.heap.size _ _).block _ (by omega) (by simp)).trans hres, k + 1, by omega, by go_num, ?_⟩
          rw [HL.out, HT.out]
          refine (set2_block hp).trans ?_
          congr 5 <;> simp
    · have hlt' : ¬ (k : Int) < (j0 : Int) := by omega
      obtain rfl : k = j0 := by omega
      have hm := block_cells hres
      have m0 := hm.1 0
      have m1 := hm.1 1
      simp at m0 m1
      have m5 := hm.2
      clear hm
      go_wp2_with fail
      refine bodyPost_ret (v := .agg #[.int .i64 (Tx.lnTo bs k + 1), .int .i64 ((k : Int) - Tx.stTo bs k + 1)]) (by simp [results, Tryd.results18, go_sem, m0, m1]) rfl ?_
      exact ⟨rfl, hB.grown (grownBy_set2 _ _ _ _) (by omega) (fun x e => by cases e; omega)⟩

theorem plV_zero (bs : List UInt8) : plV bs 0 = .agg #[.int .i64 1, .int .i64 1] := rfl
set_option maxRecDepth 100000 in
set_option maxHeartbeats 2000000 in
theorem Place_any (w : World) (b off cap : Nat) (bs : List UInt8) (hl : bs.length ≤ 65536) (hb : b < w.heap.size) (hc : Lies w b off bs) (j0 : Nat) (h2 : j0 ≤ bs.length) :
    Calls Tryd.prog 36 #[.slice (some ⟨b, off, none⟩) bs.length cap, .int .i64 j0] w fun e w' => e = .returned (plV bs j0) ∧ Below w.heap.size w w' := by
  go_enter Tryd.func36, Tryd.ntmps36
  go_wp2_with fail
  have hb' : b < (w.alloc (.cells #[.int .i64 0, .int .i64 0] 29)).heap.size := by simp; omega
  have hc' : Lies (w.alloc (.cells #[.int .i64 0, .int .i64 0] 29)) b off bs := fun j hj => (World.grownBy_alloc _ _ none).cell (hc j hj) (by simp)
  refine (further_any _ b off cap bs hl hb' hc' 0 j0 (by omega) h2).mono ?_
  rintro e w1 ⟨rfl, hB1⟩
  have hB : Below w.heap.size w w1 := ((Below.refl _ _).alloc (Nat.le_refl _) _).trans (hB1.mono (by simp))
  have hr : w1.heap[w.heap.size]? = some (.cells #[.int .i64 0, .int .i64 0] 29 (0, 0)) := (hB1.block _ (by simp)).trans (heap_alloc_new _ _)
  clear hB1 hb' hc' hc
  have hm := block_cells hr
  have m0 := hm.1 0
  have m1 := hm.1 1
  simp at m0 m1
  have m5 := hm.2
  clear hm
  unfold plV
  go_wp2_with fail
  refine bodyPost_ret (v := .agg #[.int .i64 (Tx.lnTo bs j0 + 1), .int .i64 ((j0 : Int) - Tx.stTo bs j0 + 1)]) (by simp [results, Tryd.results36, go_sem, m0, m1]) rfl ?_
  exact ⟨rfl, hB.grown (grownBy_set2 _ _ _ _) (by have := hB.size; omega) (fun x e => by cases e; omega)⟩

set_option maxRecDepth 100000 in
set_option maxHeartbeats 2000000 in
theorem run_any (w : World) (b off cap : Nat) (bs : List UInt8) (hl : bs.length ≤ 65536) (hcap : bs.length ≤ cap) (hc : Lies w b off bs) (k : Nat) (hk : k < bs.length) :
    Calls Tryd.prog 38 #[.slice (some ⟨b, off, none⟩) bs.length cap, .int .i64 k] w fun e w' => e = .returned (.string ⟨(Tx.sub bs k (Tx.upTo Tx.innerB bs k)).toArray⟩) ∧ w' = w := by
  have hck : ¬ cap = k := by omega
  have k0 : (0 : Int) ≤ (k : Int) := by omega
  go_enter Tryd.func38, Tryd.ntmps38
  go_wp2_with fail
  go_loopg [5] (bs.length - k) (fun g t wr => w = wr ∧ ∃ j : Nat, k ≤ j ∧ j + g = bs.length ∧ t = .int .i64 j ∧ Aside (Tx.upTo Tx.innerB bs k = Tx.upTo Tx.innerB bs j))
  case atStart => exact ⟨rfl, k, Nat.le_refl _, by omega, rfl, rfl⟩
  case round =>
    obtain ⟨rfl, j, hkj, hjg, rfl, HJ⟩ := hrel
    have k1 : (k : Int) ≤ (j : Int) := by omega
    have k2 : (j : Int) ≤ (cap : Int) := by omega
    have j0 : (0 : Int) ≤ (j : Int) := by omega
    have hcv : (convert 22 9 (.slice (some ⟨b, off + k, none⟩) (j - k) (cap - k))).run Tryd.prog w = .ok (.string ⟨(Tx.sub bs k j).toArray⟩) w :=
      conv_sub _ b off (cap - k) bs k j hkj (by omega) hc
    by_cases hj : j < bs.length
    · have hj' : (j : Int) < (bs.length : Int) := by omega
      have cx := hc j hj
      have HI : Aside (Tx.innerB (Tx.B bs j) = (Tx.letterB (Tx.B bs j) || Tx.digitB (Tx.B bs j) || Tx.B bs j == 95)) := rfl
      have HU : Aside (Tx.innerB (Tx.B bs j) = true → Tx.upTo Tx.innerB bs j = Tx.upTo Tx.innerB bs (j + 1)) := fun h => Tx.upTo_in hj h
      have HV : Aside (Tx.innerB (Tx.B bs j) = false → Tx.upTo Tx.innerB bs j = j) := fun h => Tx.upTo_out hj h
      clear hc
      generalize Tx.B bs j = c at *
      cases h1 : Tx.letterB c
      · cases h2 : Tx.digitB c
        · cases h3 : c == 95
          · have HS : Aside (Tx.upTo Tx.innerB bs k = j) := HJ.out.trans (HV.out (by rw [HI.out, h1, h2, h3]; rfl))
            go_wp2_with (first | (go_at_call 37; refine (letter_any _ _).mono ?_; rintro e w' ⟨rfl, hw'⟩; replace hw' := hw'.symm; subst hw') | (go_at_call 39; refine (digit_any _ _).mono ?_; rintro e w' ⟨rfl, hw'⟩; replace hw' := hw'.symm; subst hw'))
            go_ret
            rw [HS.out]
            exact ⟨rfl, rfl⟩
          · have HS : Aside (Tx.upTo Tx.innerB bs k = Tx.upTo Tx.innerB bs (j + 1)) := HJ.out.trans (HU.out (by rw [HI.out, h1, h2, h3]; rfl))
            go_wp2_with (first | (go_at_call 37; refine (letter_any _ _).mono ?_; rintro e w' ⟨rfl, hw'⟩; replace hw' := hw'.symm; subst hw') | (go_at_call 39; refine (digit_any _ _).mono ?_; rintro e w' ⟨rfl, hw'⟩; replace hw' := hw'.symm; subst hw'))
            go_roundg (gk - 1)
            case measure => omega
            case rel => exact ⟨rfl, j + 1, by omega, by omega, by go_num, HS⟩
        · have HS : Aside (Tx.upTo Tx.innerB bs k = Tx.upTo Tx.innerB bs (j + 1)) := HJ.out.trans (HU.out (by rw [HI.out, h1, h2]; rfl))
          go_wp2_with (first | (go_at_call 37; refine (letter_any _ _).mono ?_; rintro e w' ⟨rfl, hw'⟩; replace hw' := hw'.symm; subst hw') | (go_at_call 39; refine (digit_any _ _).mono ?_; rintro e w' ⟨rfl, hw'⟩; replace hw' := hw'.symm; subst hw'))
          go_roundg (gk - 1)
          case measure => omega
          case rel => exact ⟨rfl, j + 1, by omega, by omega, by go_num, HS⟩
      · have HS : Aside (Tx.upTo Tx.innerB bs k = Tx.upTo Tx.innerB bs (j + 1)) := HJ.out.trans (HU.out (by rw [HI.out, h1]; rfl))
        go_wp2_with (first | (go_at_call 37; refine (letter_any _ _).mono ?_; rintro e w' ⟨rfl, hw'⟩; replace hw' := hw'.symm; subst hw') | (go_at_call 39; refine (digit_any _ _).mono ?_; rintro e w' ⟨rfl, hw'⟩; replace hw' := hw'.symm; subst hw'))
        go_roundg (gk - 1)
        case measure => omega
        case rel => exact ⟨rfl, j + 1, by omega, by omega, by go_num, HS⟩
    · have hj' : decide ((j : Int) < (bs.length : Int)) = false := by simp; omega
      have HS : Aside (Tx.upTo Tx.innerB bs k = j) := HJ.out.trans (Tx.upTo_end (by omega))
      clear hc
      go_wp2_with fail
      go_ret
      rw [HS.out]
      exact ⟨rfl, rfl⟩
end Go.Proofs.YtjddbiabkobfoaaDoor
