/- What the document's Behind answers. -/
import Derived.Test.YtkcehgpcimlamabGreatDoorRefA
namespace Go.Proofs.YtkcehgpcimlamabGreatDoor
open Go.RowKit
set_option maxRecDepth 100000
set_option linter.unusedSimpArgs false

theorem bhI_gs {l : List Tr.Nd} {k : Nat} (hk : k < l.length) : bhI l k = if (Tr.gs (Tr.kd (l.drop k)) 1 k).1 then (Tr.gs (Tr.kd (l.drop k)) 1 k).2 else 0 := by
  rw [bhI_go hk, Tr.go_gs]; rfl

set_option maxHeartbeats 2000000 in
theorem refBehind_any (l : List Tr.Nd) (hlen : l.length ≤ 5000) (v : Value) (at0 : Int) (w : World) (hl : IsNodes w v l) :
    Calls Tryz.prog 49 #[v, .int .i64 at0] w fun e w' => e = .returned (.int .i64 (bhI l at0 : Nat)) ∧ w' = w := by
  obtain ⟨a, c, rfl⟩ := hl.form
  by_cases hneg : at0 < 0
  · have HN : Aside (bhI l at0 = 0) := bhI_neg (.inl hneg)
    go_enter Tryz.func49, Tryz.ntmps49
    go_wp2_with fail
    go_ret
    rw [HN.out]; exact ⟨rfl, rfl⟩
  · have hneg' : decide (at0 < 0) = false := by simpa using hneg
    by_cases hge : (l.length : Int) ≤ at0
    · have HN : Aside (bhI l at0 = 0) := bhI_neg (.inr hge)
      go_enter Tryz.func49, Tryz.ntmps49
      go_wp2_with fail
      go_ret
      rw [HN.out]; exact ⟨rfl, rfl⟩
    · obtain ⟨k0, rfl⟩ : ∃ k : Nat, at0 = k := ⟨at0.toNat, by omega⟩
      have hk0 : k0 < l.length := by omega
      have hk2 : decide ((l.length : Int) ≤ (k0 : Int)) = false := by simp; omega
      have hk2n : (l.length ≤ k0) = False := by simp; omega
      have HG : Aside (bhI l k0 = if (Tr.gs (Tr.kd (l.drop k0)) 1 k0).1 then (Tr.gs (Tr.kd (l.drop k0)) 1 k0).2 else 0) := bhI_gs hk0
      clear hneg hge
      go_enter Tryz.func49, Tryz.ntmps49
      go_wp2_with fail
      have HK0 : Aside (k0 < l.length) := hk0
      clear hk2 hneg' hk0 hk2n
      go_loopg [1, 5] (l.length - k0) (fun g t u wr => w = wr ∧ ∃ k m : Nat, g = l.length - k ∧ k ≤ l.length ∧ t = .int .i64 (k : Int) ∧ u = .int .i64 (m : Int) ∧ m ≤ 1 + k * 5000 ∧ Aside (Tr.gs (Tr.kd (l.drop k0)) 1 k0 = Tr.gs (Tr.kd (l.drop k)) m k))
      case atStart => exact ⟨rfl, k0, 1, rfl, Nat.le_of_lt HK0.out, rfl, rfl, by omega, rfl⟩
      case round =>
        obtain ⟨rfl, k, m, hg, hk, rfl, rfl, hm, HK⟩ := hrel
        cases m with
        | zero =>
          have HR : Aside (bhI l k0 = k) := by show _ = _; rw [HG.out, HK.out, Tr.gs_zero]; rfl
          clear HK HG
          go_wp2_with fail
          go_ret
          rw [HR.out]; exact ⟨rfl, rfl⟩
        | succ m =>
          have hm0 : (0 : Int) < ((m + 1 : Nat) : Int) := by omega
          by_cases hkl : k < l.length
          · obtain ⟨x, hx, hdx⟩ := getc hkl
            obtain ⟨b1, o1, rfl, hlc, hb1, hcx⟩ := hl.at hx
            have c1 : w.cell? ⟨b1, o1 + k * 8 + 1, none⟩ = some (.int .i64 x.kids) := hcx 1 _ rfl
            have hkd : Tr.kd (l.drop k) = x.kids :: Tr.kd (l.drop (k + 1)) := Tr.drop_kd hx
            have hk1 : decide ((l.length : Int) ≤ (k : Int)) = false := by simp; omega
            have hk2 : (k : Int) < (l.length : Int) := by omega
            have hk3 : (0 : Int) ≤ (k : Int) := by omega
            by_cases hn : x.kids < 0
            · have HR : Aside (bhI l k0 = 0) := by show _ = _; rw [HG.out, HK.out, hkd, Tr.gs, if_pos hn]; rfl
              clear HK HG hkd hdx hcx hx hl
              go_wp2_with fail
              go_ret
              rw [HR.out]; exact ⟨rfl, rfl⟩
            · have hn' : decide (x.kids < 0) = false := by simpa using hn
              obtain ⟨d, hd⟩ : ∃ d : Nat, x.kids = d := ⟨x.kids.toNat, by omega⟩
              have HS : Aside (Tr.gs (Tr.kd (l.drop k0)) 1 k0 = Tr.gs (Tr.kd (l.drop (k + 1))) (m + d) (k + 1)) := by
                show _ = _; rw [HK.out, hkd, Tr.gs, if_neg hn, hd]; rfl
              rw [hd] at c1 hn'
              by_cases hbig : l.length < d
              · have HR : Aside (bhI l k0 = 0) := by
                  show _ = _
                  rw [HG.out, HS.out, if_neg]
                  rw [Tr.gs_many _ _ _ (by rw [Tr.kd_len, List.length_drop]; omega)]; decide
                have hbig' : (l.length : Int) < (d : Int) := by omega
                clear HK HG HS hkd hdx hcx hx hl hn hd
                go_wp2_with fail
                go_ret
                rw [HR.out]; exact ⟨rfl, rfl⟩
              · have hbig' : decide ((l.length : Int) < (d : Int)) = false := by simp; omega
                have hdl : d ≤ 5000 := by omega
                clear HK HG hkd hdx hcx hx hl hn hd
                go_wp2_with fail
                go_roundg (l.length - (k + 1))
                case measure => omega
                case rel => exact ⟨rfl, k + 1, m + d, rfl, by omega, by go_num, by go_num, by omega, HS⟩
          · have hke : k = l.length := by omega
            have HR : Aside (bhI l k0 = 0) := by show _ = _; rw [HG.out, HK.out, hke, List.drop_length]; rfl
            have hk1 : (l.length : Int) ≤ (k : Int) := by omega
            clear HK HG hke
            go_wp2_with fail
            go_ret
            rw [HR.out]; exact ⟨rfl, rfl⟩
end Go.Proofs.YtkcehgpcimlamabGreatDoor
