/- What the program's inner takes: the letters, digits and _ that stand next. -/
import Derived.Test.YtjddbiabkobfoaaDoorRd
import Derived.Laws.IdiomStrings
namespace Go.Proofs.YtjddbiabkobfoaaDoor
open Go.RowKit

/-- 'string(src[i:j])' of the bytes bs. -/
theorem conv_sub (W : World) (b off cap : Nat) (bs : List UInt8) (i j : Nat) (h1 : i ≤ j) (h2 : j ≤ bs.length)
    (hc : ∀ d, d < bs.length → W.cell? ⟨b, off + d, none⟩ = some (.int .u8 (Tx.B bs d))) :
    (convert 22 9 (.slice (some ⟨b, off + i, none⟩) (j - i) cap)).run Tryd.prog W = .ok (.string ⟨(Tx.sub bs i j).toArray⟩) W := by
  have hl := Tx.sub_length (bs := bs) h1 h2
  have := run_convert_bytes_back (P := Tryd.prog) W 22 9 5 ⟨b, off + i, none⟩ cap (Tx.sub bs i j) (by kernel_rfl) (by kernel_rfl) (by kernel_rfl) (fun d hd => by
    rw [Tx.sub_get hd]
    have := hc (i + d) (by omega)
    by_cases h0 : d = 0
    · subst h0; simpa [Addr.add] using this
    · simpa [Addr.add, Nat.add_assoc, h0] using this)
  rwa [hl] at this

set_option maxHeartbeats 1000000 in
theorem inner_any (w : World) (rb b off cap : Nat) (bs : List UInt8) (m : Value) (k ln st : Nat) (hR : Rd w rb (.slice (some ⟨b, off, none⟩) bs.length cap) m k ln st) (hk : k < bs.length) (hl : bs.length ≤ 65536) (hcap : bs.length ≤ cap) (hne : b ≠ rb)
    (hc : ∀ j, j < bs.length → w.cell? ⟨b, off + j, none⟩ = some (.int .u8 (Tx.B bs j))) :
    Calls Tryd.prog 54 #[.pointer (some ⟨rb, 0, none⟩)] w fun e w' => e = .returned (.string ⟨(Tx.sub bs k (Tx.upTo Tx.innerB bs k)).toArray⟩) ∧ Rd w' rb (.slice (some ⟨b, off, none⟩) bs.length cap) m (Tx.upTo Tx.innerB bs k) ln st ∧ w.grownBy w' (some rb) := by
  obtain ⟨c0, -, c2, -, -⟩ := hR.c
  go_enter Tryd.func54, Tryd.ntmps54
  go_wp2
  clear c0 c2
  go_loopg [] (bs.length - k) (fun g wr => ∃ j : Nat, k ≤ j ∧ j + g = bs.length ∧ Rd wr rb (.slice (some ⟨b, off, none⟩) bs.length cap) m j ln st ∧ w.grownBy wr (some rb) ∧ Aside (Tx.upTo Tx.innerB bs j = Tx.upTo Tx.innerB bs k))
  case atStart => exact ⟨k, Nat.le_refl _, by omega, hR, grownBy_refl _ _, rfl⟩
  case round =>
    obtain ⟨j, hkj, hjg, hRj, hgj, HA⟩ := hrel
    obtain ⟨c0, -, c2, -, -⟩ := hRj.c
    have f2 := hRj.f 2
    have hj0 : (0 : Int) ≤ (j : Int) := by omega
    by_cases hlt : j < bs.length
    · have cx := grownBy_cell hgj hne (hc j hlt)
      have hlt' : (j : Int) < (bs.length : Int) := by omega
      by_cases hb : Tx.innerB (Tx.B bs j) = true
      · have HO : Aside (Tx.upTo Tx.innerB bs j = Tx.upTo Tx.innerB bs (j + 1)) := Tx.upTo_in (p := Tx.innerB) hlt hb
        clear hc
        go_wp2_with fail
        go_quiet ((go_at_call 47; exact Calls.quiet_of_same (isInner_any _ _)))
        go_wp2
        go_roundg (gk - 1)
        case measure => omega
        case rel => exact ⟨j + 1, by omega, by omega, Rd.setAt hRj (j + 1) (by omega), grownBy_set (grownBy_drewN hgj _) _, (HO.out.symm.trans HA.out)⟩
      · have hb' : Tx.innerB (Tx.B bs j) = false := by simpa using hb
        have HO : Aside (Tx.upTo Tx.innerB bs j = j) := Tx.upTo_out (p := Tx.innerB) hlt hb'
        clear hb
        go_wp2_with fail
        go_quiet ((go_at_call 47; exact Calls.quiet_of_same (isInner_any _ _)))
        go_wp2_with fail
        have hcv : ∀ x, (convert 22 9 (.slice (some ⟨b, off + k, none⟩) (j - k) (cap - k))).run Tryd.prog (wr.drewN x) = .ok (.string ⟨(Tx.sub bs k j).toArray⟩) (wr.drewN x) :=
          fun x => conv_sub _ b off (cap - k) bs k j hkj (by omega) (fun d hd => grownBy_cell hgj hne (hc d hd))
        have hck : ¬ cap = k := by omega
        have k1 : (k : Int) ≤ (j : Int) := by omega
        have k2 : (j : Int) ≤ (cap : Int) := by omega
        have k0 : (0 : Int) ≤ (k : Int) := by omega
        clear hc
        go_quiet (fail)
        go_wp2
        go_ret
        rw [← HA.out, HO.out]
        exact ⟨rfl, (hRj.drewN _).drewN _, grownBy_drewN (grownBy_drewN hgj _) _⟩
    · have hd : decide ((j : Int) < (bs.length : Int)) = false := by simp; omega
      go_wp2_with fail
      go_quiet ((go_at_call 47; exact Calls.quiet_of_same (isInner_any _ _)))
      go_wp2_with fail
      have hcv : ∀ x, (convert 22 9 (.slice (some ⟨b, off + k, none⟩) (j - k) (cap - k))).run Tryd.prog (wr.drewN x) = .ok (.string ⟨(Tx.sub bs k j).toArray⟩) (wr.drewN x) :=
        fun x => conv_sub _ b off (cap - k) bs k j hkj (by omega) (fun d hd => grownBy_cell hgj hne (hc d hd))
      have hck : ¬ cap = k := by omega
      have k1 : (k : Int) ≤ (j : Int) := by omega
      have k2 : (j : Int) ≤ (cap : Int) := by omega
      have k0 : (0 : Int) ≤ (k : Int) := by omega
      clear hc hd
      go_quiet (fail)
      go_wp2
      go_ret
      rw [← HA.out, Tx.upTo_end (by omega)]
      exact ⟨rfl, (hRj.drewN _).drewN _, grownBy_drewN (grownBy_drewN hgj _) _⟩
end Go.Proofs.YtjddbiabkobfoaaDoor
