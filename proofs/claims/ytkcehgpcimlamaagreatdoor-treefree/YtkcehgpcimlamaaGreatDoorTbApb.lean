/- The walk of apartTexts: the lists are gone on with. -/
import Derived.Test.YtkcehgpcimlamaaGreatDoorTbApc
namespace Go.Proofs.YtkcehgpcimlamaaGreatDoor.Tb
open Go.RowKit

set_option maxRecDepth 100000 in
set_option maxHeartbeats 10000000 in
theorem apart_b (w wc : World) (H B g N cT : Nat) (vs : List Value) (ow : Nat → Nat) (hG : Gro wc ow H B g N cT vs 0 [] []) (hK : Kp w wc H B) (hNc : N ≤ cT) (hH : H ≤ w.heap.size) (hTab : ∀ w', Below H w w' → Tab w') (K : Act → World → Prop) (hk : ∀ a w', Code.wp Tryz.prog (rest38 8) (bodyPost Tryz.prog Tryz.f28 fun e w' => e = .returned (.bool true) ∧ Kp w w' H B) a w' → K a w') (x1 x2 x3 x4 x5 x6 x7 x8 x9 x10 x11 x12 x13 x14 x15 x16 x17 x18 x19 x20 x21 x22 x23 x24 x25 x26 x27 x28 x29 x30 x31 x32 x33 x34 x35 x36 x37 x38 x39 x40 x41 x42 x43 x44 x45 x46 x47 x48 x49 x50 x51 x52 x53 x54 x55 x56 x57 x58 x59 x60 x61 x62 x63 x64 x65 x66 x67 x68 x69 x70 x71 x72 x73 x74 x75 x76 x77 x78 x79 x80 x81 x82 x83 x84 x85 x86 x87 x88 x89 x90 x91 x92 x93 x94 x95 x96 x97 x98 x99 x100 x101 x102 x103 x104 x105 x106 x107 x108 x109 x110 x111 x112 x113 x114 x115 x116 x117 x118 x119 x120 x121 x122 x123 x124 x125 x126 x127 x128 x129 x130 x131 x132 x133 x134 x135 x136 x137 x138 x139 x140 x141 x142 x143 x144 x145 x146 x147 x148 x149 x150 x151 x152 x153 x154 x155 x156 x157 x158 x159 x160 x161 x162 x163 x164 x165 x166 x167 x168 x169 x170 x171 x172 x173 x174 x175 x176 x177 x178 x179 x180 x181 x182 : Value) :
    Code.wp Tryz.prog (reg38 8) (Exit.then K (bodyPost Tryz.prog Tryz.f28 fun e w' => e = .returned (.bool true) ∧ Kp w w' H B)) ⟨List.toArray (.pointer (some ⟨B, 0, none⟩) :: x1 :: x2 :: x3 :: x4 :: x5 :: x6 :: x7 :: x8 :: x9 :: x10 :: x11 :: x12 :: x13 :: x14 :: x15 :: x16 :: x17 :: x18 :: x19 :: x20 :: x21 :: x22 :: x23 :: x24 :: x25 :: x26 :: x27 :: x28 :: x29 :: x30 :: x31 :: x32 :: x33 :: x34 :: x35 :: x36 :: x37 :: x38 :: x39 :: x40 :: x41 :: x42 :: x43 :: x44 :: x45 :: x46 :: x47 :: x48 :: x49 :: x50 :: x51 :: x52 :: x53 :: x54 :: x55 :: x56 :: x57 :: x58 :: x59 :: x60 :: x61 :: x62 :: x63 :: x64 :: x65 :: x66 :: x67 :: x68 :: x69 :: x70 :: x71 :: x72 :: x73 :: x74 :: x75 :: x76 :: x77 :: x78 :: x79 :: x80 :: x81 :: x82 :: x83 :: x84 :: x85 :: x86 :: x87 :: x88 :: x89 :: x90 :: x91 :: x92 :: x93 :: x94 :: x95 :: x96 :: x97 :: x98 :: x99 :: x100 :: x101 :: x102 :: x103 :: x104 :: x105 :: x106 :: x107 :: x108 :: x109 :: x110 :: x111 :: x112 :: x113 :: x114 :: x115 :: x116 :: x117 :: x118 :: x119 :: x120 :: x121 :: x122 :: x123 :: x124 :: x125 :: x126 :: x127 :: x128 :: x129 :: x130 :: x131 :: x132 :: x133 :: x134 :: x135 :: x136 :: x137 :: x138 :: x139 :: x140 :: x141 :: x142 :: x143 :: x144 :: x145 :: x146 :: x147 :: x148 :: x149 :: x150 :: x151 :: x152 :: x153 :: x154 :: x155 :: x156 :: x157 :: x158 :: x159 :: x160 :: x161 :: x162 :: x163 :: x164 :: x165 :: x166 :: x167 :: x168 :: x169 :: x170 :: x171 :: x172 :: x173 :: x174 :: x175 :: x176 :: x177 :: x178 :: x179 :: x180 :: x181 :: x182 :: []), []⟩ wc := by
  conv => arg 2; whnf
  conv at hk => enter [a, w', 1, 2]; whnf
  have hN := hG.few
  have hHl : H ≤ wc.heap.size := Nat.le_trans hH hK.below.size
  obtain ⟨i9, hi9, h90, h91, h92⟩ := info_parts info9
  obtain ⟨i26, hi26, h260, h261, h262⟩ := info_parts info26
  go_wp2_with fail
  go_loopg [5, 6, 7] N (fun gh ov mv nv wr => ∃ (n : Nat) (ow : Nat → Nat) (os ms : List Value), n + gh = N ∧ nv = .int .i64 n ∧ Aside (os.length = n) ∧ Aside (ms.length = n) ∧ Row wr ow H 25 2 ov n os ∧ Row wr ow H 25 3 mv n ms ∧ Aside (Kp w wr H B) ∧ Aside (Gro wr ow H B g N cT vs n os ms))
  case atStart => exact ⟨0, ow, [], [], by omega, rfl, rfl, rfl, ⟨own_nil _ _ _ _, fun b h => by simp [Value.ownBlock] at h⟩, ⟨own_nil _ _ _ _, fun b h => by simp [Value.ownBlock] at h⟩, hK, hG⟩
  case round =>
    clear hK hG ow
    obtain ⟨n, ow, os, ms, hng, rfl, hol, hml, RO, RM, HK, HG⟩ := hrel
    have hbag := HG.out.bag
    by_cases hn : n < N
    · have hn' : (n : Int) < (N : Int) := by omega
      have hn0 : (0 : Int) ≤ (n : Int) := by omega
      have hnv : n < vs.length := by rw [HG.out.num]; exact hn
      have hv := List.getElem?_eq_getElem hnv
      generalize vs[n] = v at hv
      obtain ⟨la, L, lc, xs, rfl, hown, hxs⟩ := HG.out.own n v (Nat.le_refl _) hv
      obtain ⟨la', L', lc', e', hL6, htag, _⟩ := HG.out.row n _ hv
      obtain ⟨rfl, rfl, rfl⟩ : la = la' ∧ L = L' ∧ lc = lc' := by simpa using e'
      have hcg := HG.out.cell n _ hv
      have HV : Aside (vs[n]? = some (.slice la L lc)) := hv
      clear hv e'
      go_wp2_with fail
      go_loopg [5, 8, 9] 70 (fun gh ov lv iv wr => ∃ (i : Nat) (ow : Nat → Nat) (os xs : List Value), i + gh = L + 70 ∧ L ≤ i ∧ iv = .int .i64 i ∧ Row wr ow H 9 (10 + n) lv i xs ∧ Aside (∀ j, j < i → xs[j]? = some (.string (mk n j))) ∧ Aside (i = L ∧ os.length = n ∨ L < i ∧ os.length = n + 1) ∧ Row wr ow H 25 2 ov os.length os ∧ Row wr ow H 25 3 u6 ms.length ms ∧ Aside (Kp w wr H B) ∧ Aside (Gro wr ow H B g N cT vs (n + 1) os ms))
      case atStart => exact ⟨L, ow, os, xs, by omega, Nat.le_refl _, rfl, ⟨hown, fun b hb => (htag b hb).1⟩, hxs, .inl ⟨rfl, hol.out⟩, by rw [hol.out]; exact RO, by rw [hml.out]; exact RM, HK, HG.out.keep (stays_below (Below.refl _ _)) (τ := 2) (fun b e => by cases e) (by omega) (.inl rfl)⟩
      case round =>
        clear hbag hcg hown hxs htag RO RM HK HG hol
        obtain ⟨i, ow, os, xs, hig, hLi, rfl, RL, HX, HI, RO, RM, HK, HG⟩ := hrel
        have hbag := HG.out.bag
        have hcg := HG.out.cell n _ HV.out
        have hHr : H ≤ wr.heap.size := Nat.le_trans hH HK.out.below.size
        have hT := hTab _ HK.out.below
        have hxl := RL.own.1
        obtain ⟨va, vc, rfl⟩ := own_len RL.own
        obtain ⟨oa, oc, rfl⟩ := own_len RO.own
        obtain ⟨ma, mc, rfl⟩ := own_len RM.own
        have hmb : ms.length ≤ 300 := by have := hml.out; omega
        have hob : os.length ≤ 301 := by rcases HI.out with ⟨_, h⟩ | ⟨_, h⟩ <;> omega
        have hX := text_any n i (by omega) (by omega)
        by_cases hi : i < L + 70
        · have hi' : (i : Int) < (L : Int) + 70 := by omega
          rcases HI.out with ⟨rfl, hol'⟩ | ⟨hLt, hol'⟩
          · have hol : Aside (os.length = n) := hol'
            have hmay : May vs os ms (n + 1) i (10 + n) := .inr (.inr ⟨n, rfl, by omega, by have := hml.out; omega, fun a l c h => by
              rw [HV.out] at h
              obtain ⟨-, rfl, -⟩ : la = a ∧ i = l ∧ lc = c := by simpa using h
              exact ⟨by omega, fun h => by omega⟩⟩)
            clear hol'
            go_upto_region 17 with (first | (go_at_call 56; refine (hX _ hT).mono ?_; rintro e w1 ⟨rfl, hB1⟩; have R1 := RL.below hB1) | (at_builtin; go_must (refine wpList_append_stays _ rfl _ _ 25 rfl H 9 i9 (.string ⟨#[]⟩) 16 tyTexts hi9 h90 h91 h92 rfl (.slice va i vc) _ _ rfl (R1.own.alloc _) ⟨w1.heap.size, 0, none⟩ 1 (.string (mk n i)) rfl (cells_list_new _ [.string (mk n i)] 9) rfl (by unfold maxLen; omega) (by omega) (by have := hB1.size; simp; omega) ?_); intro g2 cap w2 hown2 hst hloc; obtain ⟨G2, K2, R2, H2, O2⟩ := gro_step HG.out HK.out RL (hB1.trans ((below_alloc w1 _).mono hB1.size)) hst hown2 hloc hmay hHr; have hbag2 := G2.bag; have hcg2 := G2.cell n _ HV.out; have RO2 := O2 25 2 _ _ _ (by omega) RO; have RM2 := O2 25 3 _ _ _ (by omega) RM; clear hst hown2 hloc))
            go_wp2_with (first | (at_builtin; go_must (refine wpList_append_stays _ rfl _ _ 32 rfl H 25 i26 (.slice none 0 0) 24 ty40 hi26 h260 h261 h262 rfl (.slice oa os.length oc) _ _ rfl (RO2.own.alloc _) ⟨w2.heap.size, 0, none⟩ 1 (.slice (some ⟨g2, 0, none⟩) (i + 1) cap) rfl (cells_list_new _ [.slice (some ⟨g2, 0, none⟩) (i + 1) cap] 25) rfl (by unfold maxLen; omega) (by omega) (by simp; omega) ?_); intro g4 cap4 w4 hown4 hst4 hloc4; obtain ⟨G4, K4, R4, H4, O4⟩ := gro_step G2 K2 RO2 (below_alloc w2 _) hst4 hown4 hloc4 (.inl rfl) H2))
            go_roundg (gk - 1)
            case measure => omega
            case rel =>
              have HX2 : ∀ j, j < i + 1 → (xs ++ [Value.string (mk n i)])[j]? = some (.string (mk n j)) := by
                intro j hj
                by_cases hji : j < i
                · rw [List.getElem?_append_left (by omega)]; exact HX.out j hji
                · obtain rfl : j = i := by omega
                  rw [List.getElem?_append_right (by omega), show j - xs.length = 0 by omega]; rfl
              have R5 := O4 9 (10 + n) _ _ _ (by omega) R2
              obtain ⟨c1, c2, c3⟩ := row_cell R5 (HX2 i (by omega))
              have G5 := gro_addOne (c' := cap) (b := g2) G4 (by rw [hol.out]; exact HV.out) c2 (by rw [hol.out]; exact R5.tag g2 rfl) (by rw [hol.out]; exact c1)
              refine ⟨i + 1, _, _, _, by omega, by omega, by go_num, R5, HX2, .inr ⟨by omega, by simp [hol.out]⟩, ?_, O4 25 3 _ _ _ (by omega) RM2, K4, G5⟩
              rw [List.length_append]
              exact R4
          · have hol : Aside (os.length = n + 1) := hol'
            have hne : ((i : Int) == (L : Int)) = false := by simp; omega
            have hmay : May vs os ms (n + 1) i (10 + n) := .inr (.inr ⟨n, rfl, by omega, by have := hml.out; omega, fun a l c h => by
              rw [HV.out] at h
              obtain ⟨-, rfl, -⟩ : la = a ∧ L = l ∧ lc = c := by simpa using h
              exact ⟨by omega, fun h => by omega⟩⟩)
            clear hol'
            go_wp2_with (first | (go_at_call 56; refine (hX _ hT).mono ?_; rintro e w1 ⟨rfl, hB1⟩; have R1 := RL.below hB1) | (at_builtin; go_must (refine wpList_append_stays _ rfl _ _ 25 rfl H 9 i9 (.string ⟨#[]⟩) 16 tyTexts hi9 h90 h91 h92 rfl (.slice va i vc) _ _ rfl (R1.own.alloc _) ⟨w1.heap.size, 0, none⟩ 1 (.string (mk n i)) rfl (cells_list_new _ [.string (mk n i)] 9) rfl (by unfold maxLen; omega) (by omega) (by have := hB1.size; simp; omega) ?_); intro g2 cap w2 hown2 hst hloc; obtain ⟨G2, K2, R2, H2, O2⟩ := gro_step HG.out HK.out RL (hB1.trans ((below_alloc w1 _).mono hB1.size)) hst hown2 hloc hmay hHr; have hbag2 := G2.bag; have hcg2 := G2.cell n _ HV.out; have RO2 := O2 25 2 _ _ _ (by omega) RO; have RM2 := O2 25 3 _ _ _ (by omega) RM; clear hst hown2 hloc))
            go_roundg (gk - 1)
            case measure => omega
            case rel =>
              have HX2 : ∀ j, j < i + 1 → (xs ++ [Value.string (mk n i)])[j]? = some (.string (mk n j)) := by
                intro j hj
                by_cases hji : j < i
                · rw [List.getElem?_append_left (by omega)]; exact HX.out j hji
                · obtain rfl : j = i := by omega
                  rw [List.getElem?_append_right (by omega), show j - xs.length = 0 by omega]; rfl
              exact ⟨i + 1, _, _, _, by omega, by omega, by go_num, R2, HX2, .inr ⟨by omega, hol.out⟩, RO2, RM2, K2, G2⟩
        · have hi' : decide ((i : Int) < (L : Int) + 70) = false := by simp; omega
          have hiL : i = L + 70 := by omega
          obtain ⟨lb, lcap, e1, hlc, hlcell⟩ := own_form RL.own (by omega)
          obtain ⟨rfl, rfl⟩ : va = some ⟨lb, 0, none⟩ ∧ vc = lcap := by simpa using e1
          have hol : Aside (os.length = n + 1) := by
            show _ = _
            rcases HI.out with ⟨h, _⟩ | ⟨_, h⟩
            · omega
            · exact h
          have HIL : Aside (i = L + 70) := hiL
          clear hiL
          go_wp2_with (first | (at_builtin; go_must (refine wpList_append_stays _ rfl _ _ 32 rfl H 25 i26 (.slice none 0 0) 24 ty40 hi26 h260 h261 h262 rfl (.slice ma ms.length mc) _ _ rfl (RM.own.alloc _) ⟨wr.heap.size, 0, none⟩ 1 (.slice (some ⟨lb, 0, none⟩) i vc) rfl (cells_list_new _ [.slice (some ⟨lb, 0, none⟩) i vc] 25) rfl (by unfold maxLen; omega) (by omega) (by simp; omega) ?_); intro g4 cap4 w4 hown4 hst4 hloc4; obtain ⟨G4, K4, R4, H4, O4⟩ := gro_step HG.out HK.out RM (below_alloc wr _) hst4 hown4 hloc4 (.inr (.inl rfl)) hHr))
          go_roundg (N - (n + 1))
          case measure => omega
          case rel =>
            have hiL := HIL.out
            subst hiL
            have R5 := O4 9 (10 + n) _ _ _ (by omega) RL
            have G5 := gro_addMore (c' := vc) (b := lb) G4 (by rw [hml.out]; exact HV.out) hlc (by rw [hml.out]; exact R5.tag lb rfl) (by
              intro j hj
              rw [hml.out]
              exact (row_cell R5 (HX.out j hj)).1)
            exact ⟨n + 1, _, os, _, by omega, by go_num, hol, by show _ = _; simp [hml.out], by rw [show n + 1 = os.length by rw [hol.out]]; exact O4 25 2 _ _ _ (by omega) RO, by rw [show n + 1 = ms.length + 1 by rw [hml.out]]; exact R4, K4, G5⟩
    · have hn' : decide ((n : Int) < (N : Int)) = false := by simp; omega
      obtain rfl : n = N := by omega
      obtain ⟨oa, oc, rfl⟩ := own_len RO.own
      obtain ⟨ma, mc, rfl⟩ := own_len RM.own
      go_upto_region 20 with fail
      exact apart_c w _ H B g n cT _ oc mc oa ma vs os ms ow HG.out HK.out hNc hH hTab hol hml RO RM _ (by assumption) _ (by assumption) _ _ _ _ _ _ _ _ _ _ _ _ _ _ _ _ _ _ _ _ _ _ _ _ _ _ _ _ _ _ _ _ _ _ _ _ _ _ _ _ _ _ _ _ _ _ _ _ _ _ _ _ _ _ _ _ _ _ _ _ _ _ _ _ _ _ _ _ _ _ _ _ _ _ _ _ _ _ _ _ _ _ _ _ _ _ _ _ _ _ _ _ _ _ _ _ _ _ _ _ _ _ _ _ _ _ _ _ _ _ _ _ _ _ _ _ _ _ _ _ _ _ _ _ _ _ _ _ _ _ _ _ _ _ _ _ _ _ _ _ _ _ _ _ _ _ _ _ _ _ _ _ _ _ _ _ _ _ _ _ _ _ _ _ _ _ _ _ _ _ _ _ _ _ _ _ _ _ _ _

end Go.Proofs.YtkcehgpcimlamaaGreatDoor.Tb
