/- The walk of apartTexts: its first two loops. -/
import Derived.Test.YtkcehgpcimlamaaGreatDoorTbApb
namespace Go.Proofs.YtkcehgpcimlamaaGreatDoor.Tb
open Go.RowKit

set_option maxRecDepth 100000 in
set_option maxHeartbeats 10000000 in
theorem apartTexts_any (w : World) (H B g N cT : Nat) (vs : List Value) (hL : Lain w H B g N cT vs (fun _ => 0)) (hNc : N ≤ cT) (hH : H ≤ w.heap.size) (hTab : ∀ w', Below H w w' → Tab w') :
    Calls Tryz.prog 28 #[.pointer (some ⟨B, 0, none⟩)] w fun e w' => e = .returned (.bool true) ∧ Kp w w' H B := by
  have hN := hL.few
  have hBl := hL.lB
  have hgl := hL.lg
  have HU0 : Aside (Upto w H B g N cT vs 0 0) := ⟨fun _ => 0, hL, fun k _ _ _ hk => by omega, rfl, fun _ _ => rfl⟩
  have hb0 := hL.bag
  clear hL
  go_enter Tryz.func28, Tryz.ntmps28
  go_wp2_with fail
  go_loopg [3] N (fun gh nv wr => ∃ n : Nat, n + gh = N ∧ nv = .int .i64 n ∧ Aside (Kp w wr H B) ∧ Aside (Upto wr H B g N cT vs n 0))
  case atStart => exact ⟨0, by omega, rfl, ⟨Below.refl _ _, rfl⟩, HU0.out⟩
  case round =>
    obtain ⟨n, hng, rfl, HK, HU⟩ := hrel
    have hbag : wr.cell? ⟨B, 4, none⟩ = some (.slice (some ⟨g, 0, none⟩) N cT) := by obtain ⟨m, h1, _⟩ := HU.out; exact h1.bag
    by_cases hn : n < N
    · have hn' : (n : Int) < (N : Int) := by omega
      obtain ⟨a, l, c, hv, hl6⟩ : ∃ a l c, Aside (vs[n]? = some (.slice a l c)) ∧ l ≤ 1000000 := by
        obtain ⟨m, h1, _⟩ := HU.out
        obtain ⟨a, l, c, h2, _, h3, _⟩ := lain_at h1 hn
        exact ⟨a, l, c, h2, h3⟩
      clear hb0
      go_wp2_with fail
      clear hbag
      go_loopg [4] l (fun gh iv wr => ∃ i : Nat, i + gh = l ∧ iv = .int .i64 i ∧ Aside (Kp w wr H B) ∧ Aside (Upto wr H B g N cT vs n i))
      case atStart => exact ⟨0, by omega, rfl, HK, HU⟩
      case round =>
        obtain ⟨i, hig, rfl, HK, HU⟩ := hrel
        obtain ⟨hbag, hcg, hat⟩ : wr.cell? ⟨B, 4, none⟩ = some (.slice (some ⟨g, 0, none⟩) N cT) ∧ wr.cell? ⟨g, n, none⟩ = some (.slice a l c) ∧ (i < l → ∃ b, a = some ⟨b, 0, none⟩ ∧ H ≤ b ∧ b ≠ B ∧ b ≠ g ∧ b < wr.heap.size ∧ l ≤ c ∧ (∃ u, wr.cell? ⟨b, i, none⟩ = some u) ∧ wr.frozen? ⟨b, i, none⟩ = false) := by
          obtain ⟨m, h1, _⟩ := HU.out
          obtain ⟨a', l', c', h2, h3, _, h4⟩ := lain_at h1 hn
          have h2' := h2
          rw [hv.out] at h2
          obtain ⟨rfl, rfl, rfl⟩ : a = a' ∧ l = l' ∧ c = c' := by simpa using h2
          exact ⟨h1.bag, h3, h4 i⟩
        have hn0 : (0 : Int) ≤ (n : Int) := by omega
        have hi0 : (0 : Int) ≤ (i : Int) := by omega
        have hsz := HK.out.below.size
        by_cases hi : i < l
        · have hi' : (i : Int) < (l : Int) := by omega
          obtain ⟨b, rfl, hHb, hbB, hbg, hbl, hlc, ⟨u, hu⟩, hfu⟩ := hat hi
          have hBw : B < wr.heap.size := by omega
          have hgw : g < wr.heap.size := by omega
          have hX := text_any n i (by omega) (by omega)
          have hT := hTab _ HK.out.below
          clear hTab
          go_wp2_with fail
          go_region_with (go_at_call 56; refine (hX _ (by exact hT)).mono ?_; rintro e w2 ⟨rfl, hB2⟩; have q1 := (hB2.cell (p := ⟨B, 4, none⟩) hBw).trans hbag; have q2 := (hB2.cell (p := ⟨g, n, none⟩) hgw).trans hcg; have q3 := (hB2.cell (p := ⟨b, i, none⟩) hbl).trans hu; have q4 := (hB2.frozen (p := ⟨b, i, none⟩) hbl).trans hfu)
          all_goals
            go_wp2_with fail
            go_roundg (gk - 1)
            case measure => omega
            case rel => exact ⟨i + 1, by omega, by go_num, kp_set (kp_below (kp_drew HK.out) hB2 (by show H ≤ wr.heap.size; omega) (by show B < wr.heap.size; omega)) hHb (Ne.symm hbB) _, upto_mark (upto_below (upto_drew HU.out) hB2) hv.out hi⟩
        · have hi' : decide ((i : Int) < (l : Int)) = false := by simp; omega
          obtain rfl : i = l := by omega
          go_wp2_with fail
          go_roundg (N - (n + 1))
          case measure => omega
          case rel => exact ⟨n + 1, by omega, by go_num, HK, upto_next HU.out hv.out⟩
    · have hn' : decide ((n : Int) < (N : Int)) = false := by simp; omega
      clear hb0
      obtain rfl : n = N := by omega
      obtain ⟨ow, hG⟩ := gro_start HU.out
      go_upto_region 8 with fail
      exact apart_b w _ H B g n cT vs ow hG HK.out hNc hH hTab _ (by assumption) _ _ _ _ _ _ _ _ _ _ _ _ _ _ _ _ _ _ _ _ _ _ _ _ _ _ _ _ _ _ _ _ _ _ _ _ _ _ _ _ _ _ _ _ _ _ _ _ _ _ _ _ _ _ _ _ _ _ _ _ _ _ _ _ _ _ _ _ _ _ _ _ _ _ _ _ _ _ _ _ _ _ _ _ _ _ _ _ _ _ _ _ _ _ _ _ _ _ _ _ _ _ _ _ _ _ _ _ _ _ _ _ _ _ _ _ _ _ _ _ _ _ _ _ _ _ _ _ _ _ _ _ _ _ _ _ _ _ _ _ _ _ _ _ _ _ _ _ _ _ _ _ _ _ _ _ _ _ _ _ _ _ _ _ _ _ _ _ _ _ _ _ _ _ _ _ _ _ _ _ _ _
end Go.Proofs.YtkcehgpcimlamaaGreatDoor.Tb
