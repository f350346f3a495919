/- For every tree and every environment, CheckExprs returns true: the program answers the types of the nodes, or the first refusal, as the document does; what is handed in stays, and what is answered is new memory. Conditions: the listed variables start as the program's text lays them. -/
import Derived.Test.YthihnkgjkmaplaaGreatDoorVab
import Derived.Test.YthihnkgjkmaplaaGreatDoorUbn
import Derived.Test.YthihnkgjkmaplaaGreatDoorVaa
import Derived.Test.YthihnkgjkmaplaaGreatDoorUbo
import Derived.Test.YthihnkgjkmaplaaGreatDoorTie
import Derived.Test.YthihnkgjkmaplaaGreatDoorCards
import Derived.Lib.LaidTab
namespace Go.Proofs.YthihnkgjkmaplaaGreatDoor.Tb
open Go.RowKit

set_option maxRecDepth 100000 in
set_option maxHeartbeats 10000000 in
theorem apart_b (w wc : World) (H B g N cT : Nat) (vs : List Value) (ow : Nat → Nat) (hG : Gro wc ow H B g N cT vs 0 [] []) (hK : Kp w wc H B) (hNc : N ≤ cT) (hH : H ≤ w.heap.size) (hTab : ∀ w', Below H w w' → Tab w') (K : Act → World → Prop) (hk : ∀ a w', Code.wp Tryz.prog (rest38 8) (bodyPost Tryz.prog Tryz.f31 fun e w' => e = .returned (.bool true) ∧ Kp w w' H B) a w' → K a w') (x1 x2 x3 x4 x5 x6 x7 x8 x9 x10 x11 x12 x13 x14 x15 x16 x17 x18 x19 x20 x21 x22 x23 x24 x25 x26 x27 x28 x29 x30 x31 x32 x33 x34 x35 x36 x37 x38 x39 x40 x41 x42 x43 x44 x45 x46 x47 x48 x49 x50 x51 x52 x53 x54 x55 x56 x57 x58 x59 x60 x61 x62 x63 x64 x65 x66 x67 x68 x69 x70 x71 x72 x73 x74 x75 x76 x77 x78 x79 x80 x81 x82 x83 x84 x85 x86 x87 x88 x89 x90 x91 x92 x93 x94 x95 x96 x97 x98 x99 x100 x101 x102 x103 x104 x105 x106 x107 x108 x109 x110 x111 x112 x113 x114 x115 x116 x117 x118 x119 x120 x121 x122 x123 x124 x125 x126 x127 x128 x129 x130 x131 x132 x133 x134 x135 x136 x137 x138 x139 x140 x141 x142 x143 x144 x145 x146 x147 x148 x149 x150 x151 x152 x153 x154 x155 x156 x157 x158 x159 x160 x161 x162 x163 x164 x165 x166 x167 x168 x169 x170 x171 x172 x173 x174 x175 x176 x177 x178 x179 x180 x181 x182 : Value) :
    Code.wp Tryz.prog (reg38 8) (Exit.then K (bodyPost Tryz.prog Tryz.f31 fun e w' => e = .returned (.bool true) ∧ Kp w w' H B)) ⟨List.toArray (.pointer (some ⟨B, 0, none⟩) :: x1 :: x2 :: x3 :: x4 :: x5 :: x6 :: x7 :: x8 :: x9 :: x10 :: x11 :: x12 :: x13 :: x14 :: x15 :: x16 :: x17 :: x18 :: x19 :: x20 :: x21 :: x22 :: x23 :: x24 :: x25 :: x26 :: x27 :: x28 :: x29 :: x30 :: x31 :: x32 :: x33 :: x34 :: x35 :: x36 :: x37 :: x38 :: x39 :: x40 :: x41 :: x42 :: x43 :: x44 :: x45 :: x46 :: x47 :: x48 :: x49 :: x50 :: x51 :: x52 :: x53 :: x54 :: x55 :: x56 :: x57 :: x58 :: x59 :: x60 :: x61 :: x62 :: x63 :: x64 :: x65 :: x66 :: x67 :: x68 :: x69 :: x70 :: x71 :: x72 :: x73 :: x74 :: x75 :: x76 :: x77 :: x78 :: x79 :: x80 :: x81 :: x82 :: x83 :: x84 :: x85 :: x86 :: x87 :: x88 :: x89 :: x90 :: x91 :: x92 :: x93 :: x94 :: x95 :: x96 :: x97 :: x98 :: x99 :: x100 :: x101 :: x102 :: x103 :: x104 :: x105 :: x106 :: x107 :: x108 :: x109 :: x110 :: x111 :: x112 :: x113 :: x114 :: x115 :: x116 :: x117 :: x118 :: x119 :: x120 :: x121 :: x122 :: x123 :: x124 :: x125 :: x126 :: x127 :: x128 :: x129 :: x130 :: x131 :: x132 :: x133 :: x134 :: x135 :: x136 :: x137 :: x138 :: x139 :: x140 :: x141 :: x142 :: x143 :: x144 :: x145 :: x146 :: x147 :: x148 :: x149 :: x150 :: x151 :: x152 :: x153 :: x154 :: x155 :: x156 :: x157 :: x158 :: x159 :: x160 :: x161 :: x162 :: x163 :: x164 :: x165 :: x166 :: x167 :: x168 :: x169 :: x170 :: x171 :: x172 :: x173 :: x174 :: x175 :: x176 :: x177 :: x178 :: x179 :: x180 :: x181 :: x182 :: []), []⟩ wc := by
  conv => arg 2; whnf
  conv at hk => enter [a, w', 1, 2]; whnf
  have hN := hG.few
  have hHl : H ≤ wc.heap.size := Nat.le_trans hH hK.below.size
  obtain ⟨i9, hi9, h90, h91, h92⟩ := info_parts info9
  obtain ⟨i26, hi26, h260, h261, h262⟩ := info_parts info26
  go_wp2_with fail
  go_loopg [5, 6, 7] N (fun gh ov mv nv wr => ∃ (n : Nat) (ow : Nat → Nat) (os ms : List Value), n + gh = N ∧ nv = .int .i64 n ∧ Aside (os.length = n) ∧ Aside (ms.length = n) ∧ Row wr ow H 23 2 ov n os ∧ Row wr ow H 23 3 mv n ms ∧ Aside (Kp w wr H B) ∧ Aside (Gro wr ow H B g N cT vs n os ms))
  case atStart => exact ⟨0, ow, [], [], by omega, rfl, rfl, rfl, ⟨own_nil _ _ _ _, fun b h => by simp [Value.ownBlock] at h⟩, ⟨own_nil _ _ _ _, fun b h => by simp [Value.ownBlock] at h⟩, hK, hG⟩
  case round =>
    clear hK hG ow
    obtain ⟨n, ow, os, ms, hng, rfl, hol, hml, RO, RM, HK, HG⟩ := hrel
    have hbag := HG.out.bag
    by_cases hn : n < N
    · have hn' : (n : Int) < (N : Int) := by omega
      have hn0 : (0 : Int) ≤ (n : Int) := by omega
      have hnv : n < vs.length := by rw [HG.out.num]; exact hn
      have hv := List.getElem?_eq_getElem hnv
      generalize vs[n] = v at hv
      obtain ⟨la, L, lc, xs, rfl, hown, hxs⟩ := HG.out.own n v (Nat.le_refl _) hv
      obtain ⟨la', L', lc', e', hL6, htag, _⟩ := HG.out.row n _ hv
      obtain ⟨rfl, rfl, rfl⟩ : la = la' ∧ L = L' ∧ lc = lc' := by simpa using e'
      have hcg := HG.out.cell n _ hv
      have HV : Aside (vs[n]? = some (.slice la L lc)) := hv
      clear hv e'
      go_wp2_with fail
      go_loopg [5, 8, 9] 70 (fun gh ov lv iv wr => ∃ (i : Nat) (ow : Nat → Nat) (os xs : List Value), i + gh = L + 70 ∧ L ≤ i ∧ iv = .int .i64 i ∧ Row wr ow H 9 (10 + n) lv i xs ∧ Aside (∀ j, j < i → xs[j]? = some (.string (mk n j))) ∧ Aside (i = L ∧ os.length = n ∨ L < i ∧ os.length = n + 1) ∧ Row wr ow H 23 2 ov os.length os ∧ Row wr ow H 23 3 u6 ms.length ms ∧ Aside (Kp w wr H B) ∧ Aside (Gro wr ow H B g N cT vs (n + 1) os ms))
      case atStart => exact ⟨L, ow, os, xs, by omega, Nat.le_refl _, rfl, ⟨hown, fun b hb => (htag b hb).1⟩, hxs, .inl ⟨rfl, hol.out⟩, by rw [hol.out]; exact RO, by rw [hml.out]; exact RM, HK, HG.out.keep (stays_below (Below.refl _ _)) (τ := 2) (fun b e => by cases e) (by omega) (.inl rfl)⟩
      case round =>
        clear hbag hcg hown hxs htag RO RM HK HG hol
        obtain ⟨i, ow, os, xs, hig, hLi, rfl, RL, HX, HI, RO, RM, HK, HG⟩ := hrel
        have hbag := HG.out.bag
        have hcg := HG.out.cell n _ HV.out
        have hHr : H ≤ wr.heap.size := Nat.le_trans hH HK.out.below.size
        have hT := hTab _ HK.out.below
        have hxl := RL.own.1
        obtain ⟨va, vc, rfl⟩ := own_len RL.own
        obtain ⟨oa, oc, rfl⟩ := own_len RO.own
        obtain ⟨ma, mc, rfl⟩ := own_len RM.own
        have hmb : ms.length ≤ 300 := by have := hml.out; omega
        have hob : os.length ≤ 301 := by rcases HI.out with ⟨_, h⟩ | ⟨_, h⟩ <;> omega
        have hX := text_any n i (by omega) (by omega)
        by_cases hi : i < L + 70
        · have hi' : (i : Int) < (L : Int) + 70 := by omega
          rcases HI.out with ⟨rfl, hol'⟩ | ⟨hLt, hol'⟩
          · have hol : Aside (os.length = n) := hol'
            have hmay : May vs os ms (n + 1) i (10 + n) := .inr (.inr ⟨n, rfl, by omega, by have := hml.out; omega, fun a l c h => by
              rw [HV.out] at h
              obtain ⟨-, rfl, -⟩ : la = a ∧ i = l ∧ lc = c := by simpa using h
              exact ⟨by omega, fun h => by omega⟩⟩)
            clear hol'
            go_upto_region 17 with (first | (go_at_call 22; refine (hX _ hT).mono ?_; rintro e w1 ⟨rfl, hB1⟩; have R1 := RL.below hB1) | (at_builtin; go_must (refine wpList_append_stays _ rfl _ _ 23 rfl H 9 i9 (.string ⟨#[]⟩) 16 tyTexts hi9 h90 h91 h92 rfl (.slice va i vc) _ _ rfl (R1.own.alloc _) ⟨w1.heap.size, 0, none⟩ 1 (.string (mk n i)) rfl (cells_list_new _ [.string (mk n i)] 9) rfl (by unfold maxLen; omega) (by omega) (by have := hB1.size; simp; omega) ?_); intro g2 cap w2 hown2 hst hloc; obtain ⟨G2, K2, R2, H2, O2⟩ := gro_step HG.out HK.out RL (hB1.trans ((below_alloc w1 _).mono hB1.size)) hst hown2 hloc hmay hHr; have hbag2 := G2.bag; have hcg2 := G2.cell n _ HV.out; have RO2 := O2 23 2 _ _ _ (by omega) RO; have RM2 := O2 23 3 _ _ _ (by omega) RM; clear hst hown2 hloc))
            go_wp2_with (first | (at_builtin; go_must (refine wpList_append_stays _ rfl _ _ 38 rfl H 23 i26 (.slice none 0 0) 24 ty40 hi26 h260 h261 h262 rfl (.slice oa os.length oc) _ _ rfl (RO2.own.alloc _) ⟨w2.heap.size, 0, none⟩ 1 (.slice (some ⟨g2, 0, none⟩) (i + 1) cap) rfl (cells_list_new _ [.slice (some ⟨g2, 0, none⟩) (i + 1) cap] 23) rfl (by unfold maxLen; omega) (by omega) (by simp; omega) ?_); intro g4 cap4 w4 hown4 hst4 hloc4; obtain ⟨G4, K4, R4, H4, O4⟩ := gro_step G2 K2 RO2 (below_alloc w2 _) hst4 hown4 hloc4 (.inl rfl) H2))
            go_roundg (gk - 1)
            case measure => omega
            case rel =>
              have HX2 : ∀ j, j < i + 1 → (xs ++ [Value.string (mk n i)])[j]? = some (.string (mk n j)) := by
                intro j hj
                by_cases hji : j < i
                · rw [List.getElem?_append_left (by omega)]; exact HX.out j hji
                · obtain rfl : j = i := by omega
                  rw [List.getElem?_append_right (by omega), show j - xs.length = 0 by omega]; rfl
              have R5 := O4 9 (10 + n) _ _ _ (by omega) R2
              obtain ⟨c1, c2, c3⟩ := row_cell R5 (HX2 i (by omega))
              have G5 := gro_addOne (c' := cap) (b := g2) G4 (by rw [hol.out]; exact HV.out) c2 (by rw [hol.out]; exact R5.tag g2 rfl) (by rw [hol.out]; exact c1)
              refine ⟨i + 1, _, _, _, by omega, by omega, by go_num, R5, HX2, .inr ⟨by omega, by simp [hol.out]⟩, ?_, O4 23 3 _ _ _ (by omega) RM2, K4, G5⟩
              rw [List.length_append]
              exact R4
          · have hol : Aside (os.length = n + 1) := hol'
            have hne : ((i : Int) == (L : Int)) = false := by simp; omega
            have hmay : May vs os ms (n + 1) i (10 + n) := .inr (.inr ⟨n, rfl, by omega, by have := hml.out; omega, fun a l c h => by
              rw [HV.out] at h
              obtain ⟨-, rfl, -⟩ : la = a ∧ L = l ∧ lc = c := by simpa using h
              exact ⟨by omega, fun h => by omega⟩⟩)
            clear hol'
            go_wp2_with (first | (go_at_call 22; refine (hX _ hT).mono ?_; rintro e w1 ⟨rfl, hB1⟩; have R1 := RL.below hB1) | (at_builtin; go_must (refine wpList_append_stays _ rfl _ _ 23 rfl H 9 i9 (.string ⟨#[]⟩) 16 tyTexts hi9 h90 h91 h92 rfl (.slice va i vc) _ _ rfl (R1.own.alloc _) ⟨w1.heap.size, 0, none⟩ 1 (.string (mk n i)) rfl (cells_list_new _ [.string (mk n i)] 9) rfl (by unfold maxLen; omega) (by omega) (by have := hB1.size; simp; omega) ?_); intro g2 cap w2 hown2 hst hloc; obtain ⟨G2, K2, R2, H2, O2⟩ := gro_step HG.out HK.out RL (hB1.trans ((below_alloc w1 _).mono hB1.size)) hst hown2 hloc hmay hHr; have hbag2 := G2.bag; have hcg2 := G2.cell n _ HV.out; have RO2 := O2 23 2 _ _ _ (by omega) RO; have RM2 := O2 23 3 _ _ _ (by omega) RM; clear hst hown2 hloc))
            go_roundg (gk - 1)
            case measure => omega
            case rel =>
              have HX2 : ∀ j, j < i + 1 → (xs ++ [Value.string (mk n i)])[j]? = some (.string (mk n j)) := by
                intro j hj
                by_cases hji : j < i
                · rw [List.getElem?_append_left (by omega)]; exact HX.out j hji
                · obtain rfl : j = i := by omega
                  rw [List.getElem?_append_right (by omega), show j - xs.length = 0 by omega]; rfl
              exact ⟨i + 1, _, _, _, by omega, by omega, by go_num, R2, HX2, .inr ⟨by omega, hol.out⟩, RO2, RM2, K2, G2⟩
        · have hi' : decide ((i : Int) < (L : Int) + 70) = false := by simp; omega
          have hiL : i = L + 70 := by omega
          obtain ⟨lb, lcap, e1, hlc, hlcell⟩ := own_form RL.own (by omega)
          obtain ⟨rfl, rfl⟩ : va = some ⟨lb, 0, none⟩ ∧ vc = lcap := by simpa using e1
          have hol : Aside (os.length = n + 1) := by
            show _ = _
            rcases HI.out with ⟨h, _⟩ | ⟨_, h⟩
            · omega
            · exact h
          have HIL : Aside (i = L + 70) := hiL
          clear hiL
          go_wp2_with (first | (at_builtin; go_must (refine wpList_append_stays _ rfl _ _ 38 rfl H 23 i26 (.slice none 0 0) 24 ty40 hi26 h260 h261 h262 rfl (.slice ma ms.length mc) _ _ rfl (RM.own.alloc _) ⟨wr.heap.size, 0, none⟩ 1 (.slice (some ⟨lb, 0, none⟩) i vc) rfl (cells_list_new _ [.slice (some ⟨lb, 0, none⟩) i vc] 23) rfl (by unfold maxLen; omega) (by omega) (by simp; omega) ?_); intro g4 cap4 w4 hown4 hst4 hloc4; obtain ⟨G4, K4, R4, H4, O4⟩ := gro_step HG.out HK.out RM (below_alloc wr _) hst4 hown4 hloc4 (.inr (.inl rfl)) hHr))
          go_roundg (N - (n + 1))
          case measure => omega
          case rel =>
            have hiL := HIL.out
            subst hiL
            have R5 := O4 9 (10 + n) _ _ _ (by omega) RL
            have G5 := gro_addMore (c' := vc) (b := lb) G4 (by rw [hml.out]; exact HV.out) hlc (by rw [hml.out]; exact R5.tag lb rfl) (by
              intro j hj
              rw [hml.out]
              exact (row_cell R5 (HX.out j hj)).1)
            exact ⟨n + 1, _, os, _, by omega, by go_num, hol, by show _ = _; simp [hml.out], by rw [show n + 1 = os.length by rw [hol.out]]; exact O4 23 2 _ _ _ (by omega) RO, by rw [show n + 1 = ms.length + 1 by rw [hml.out]]; exact R4, K4, G5⟩
    · have hn' : decide ((n : Int) < (N : Int)) = false := by simp; omega
      obtain rfl : n = N := by omega
      obtain ⟨oa, oc, rfl⟩ := own_len RO.own
      obtain ⟨ma, mc, rfl⟩ := own_len RM.own
      go_upto_region 20 with fail
      exact apart_c w _ H B g n cT _ oc mc oa ma vs os ms ow HG.out HK.out hNc hH hTab hol hml RO RM _ (by assumption) _ (by assumption) _ _ _ _ _ _ _ _ _ _ _ _ _ _ _ _ _ _ _ _ _ _ _ _ _ _ _ _ _ _ _ _ _ _ _ _ _ _ _ _ _ _ _ _ _ _ _ _ _ _ _ _ _ _ _ _ _ _ _ _ _ _ _ _ _ _ _ _ _ _ _ _ _ _ _ _ _ _ _ _ _ _ _ _ _ _ _ _ _ _ _ _ _ _ _ _ _ _ _ _ _ _ _ _ _ _ _ _ _ _ _ _ _ _ _ _ _ _ _ _ _ _ _ _ _ _ _ _ _ _ _ _ _ _ _ _ _ _ _ _ _ _ _ _ _ _ _ _ _ _ _ _ _ _ _ _ _ _ _ _ _ _ _ _ _ _ _ _ _ _ _ _ _ _ _ _ _ _ _ _

end Go.Proofs.YthihnkgjkmaplaaGreatDoor.Tb
namespace Go.Proofs.YthihnkgjkmaplaaGreatDoor.Tb
open Go.RowKit

set_option maxRecDepth 100000 in
set_option maxHeartbeats 10000000 in
theorem apartTexts_any (w : World) (H B g N cT : Nat) (vs : List Value) (hL : Lain w H B g N cT vs (fun _ => 0)) (hNc : N ≤ cT) (hH : H ≤ w.heap.size) (hTab : ∀ w', Below H w w' → Tab w') :
    Calls Tryz.prog 31 #[.pointer (some ⟨B, 0, none⟩)] w fun e w' => e = .returned (.bool true) ∧ Kp w w' H B := by
  have hN := hL.few
  have hBl := hL.lB
  have hgl := hL.lg
  have HU0 : Aside (Upto w H B g N cT vs 0 0) := ⟨fun _ => 0, hL, fun k _ _ _ hk => by omega, rfl, fun _ _ => rfl⟩
  have hb0 := hL.bag
  clear hL
  go_enter Tryz.func31, Tryz.ntmps31
  go_wp2_with fail
  go_loopg [3] N (fun gh nv wr => ∃ n : Nat, n + gh = N ∧ nv = .int .i64 n ∧ Aside (Kp w wr H B) ∧ Aside (Upto wr H B g N cT vs n 0))
  case atStart => exact ⟨0, by omega, rfl, ⟨Below.refl _ _, rfl⟩, HU0.out⟩
  case round =>
    obtain ⟨n, hng, rfl, HK, HU⟩ := hrel
    have hbag : wr.cell? ⟨B, 4, none⟩ = some (.slice (some ⟨g, 0, none⟩) N cT) := by obtain ⟨m, h1, _⟩ := HU.out; exact h1.bag
    by_cases hn : n < N
    · have hn' : (n : Int) < (N : Int) := by omega
      obtain ⟨a, l, c, hv, hl6⟩ : ∃ a l c, Aside (vs[n]? = some (.slice a l c)) ∧ l ≤ 1000000 := by
        obtain ⟨m, h1, _⟩ := HU.out
        obtain ⟨a, l, c, h2, _, h3, _⟩ := lain_at h1 hn
        exact ⟨a, l, c, h2, h3⟩
      clear hb0
      go_wp2_with fail
      clear hbag
      go_loopg [4] l (fun gh iv wr => ∃ i : Nat, i + gh = l ∧ iv = .int .i64 i ∧ Aside (Kp w wr H B) ∧ Aside (Upto wr H B g N cT vs n i))
      case atStart => exact ⟨0, by omega, rfl, HK, HU⟩
      case round =>
        obtain ⟨i, hig, rfl, HK, HU⟩ := hrel
        obtain ⟨hbag, hcg, hat⟩ : wr.cell? ⟨B, 4, none⟩ = some (.slice (some ⟨g, 0, none⟩) N cT) ∧ wr.cell? ⟨g, n, none⟩ = some (.slice a l c) ∧ (i < l → ∃ b, a = some ⟨b, 0, none⟩ ∧ H ≤ b ∧ b ≠ B ∧ b ≠ g ∧ b < wr.heap.size ∧ l ≤ c ∧ (∃ u, wr.cell? ⟨b, i, none⟩ = some u) ∧ wr.frozen? ⟨b, i, none⟩ = false) := by
          obtain ⟨m, h1, _⟩ := HU.out
          obtain ⟨a', l', c', h2, h3, _, h4⟩ := lain_at h1 hn
          have h2' := h2
          rw [hv.out] at h2
          obtain ⟨rfl, rfl, rfl⟩ : a = a' ∧ l = l' ∧ c = c' := by simpa using h2
          exact ⟨h1.bag, h3, h4 i⟩
        have hn0 : (0 : Int) ≤ (n : Int) := by omega
        have hi0 : (0 : Int) ≤ (i : Int) := by omega
        have hsz := HK.out.below.size
        by_cases hi : i < l
        · have hi' : (i : Int) < (l : Int) := by omega
          obtain ⟨b, rfl, hHb, hbB, hbg, hbl, hlc, ⟨u, hu⟩, hfu⟩ := hat hi
          have hBw : B < wr.heap.size := by omega
          have hgw : g < wr.heap.size := by omega
          have hX := text_any n i (by omega) (by omega)
          have hT := hTab _ HK.out.below
          clear hTab
          go_wp2_with fail
          go_region_with (go_at_call 22; refine (hX _ (by exact hT)).mono ?_; rintro e w2 ⟨rfl, hB2⟩; have q1 := (hB2.cell (p := ⟨B, 4, none⟩) hBw).trans hbag; have q2 := (hB2.cell (p := ⟨g, n, none⟩) hgw).trans hcg; have q3 := (hB2.cell (p := ⟨b, i, none⟩) hbl).trans hu; have q4 := (hB2.frozen (p := ⟨b, i, none⟩) hbl).trans hfu)
          all_goals
            go_wp2_with fail
            go_roundg (gk - 1)
            case measure => omega
            case rel => exact ⟨i + 1, by omega, by go_num, kp_set (kp_below (kp_drew HK.out) hB2 (by show H ≤ wr.heap.size; omega) (by show B < wr.heap.size; omega)) hHb (Ne.symm hbB) _, upto_mark (upto_below (upto_drew HU.out) hB2) hv.out hi⟩
        · have hi' : decide ((i : Int) < (l : Int)) = false := by simp; omega
          obtain rfl : i = l := by omega
          go_wp2_with fail
          go_roundg (N - (n + 1))
          case measure => omega
          case rel => exact ⟨n + 1, by omega, by go_num, HK, upto_next HU.out hv.out⟩
    · have hn' : decide ((n : Int) < (N : Int)) = false := by simp; omega
      clear hb0
      obtain rfl : n = N := by omega
      obtain ⟨ow, hG⟩ := gro_start HU.out
      go_upto_region 8 with fail
      exact apart_b w _ H B g n cT vs ow hG HK.out hNc hH hTab _ (by assumption) _ _ _ _ _ _ _ _ _ _ _ _ _ _ _ _ _ _ _ _ _ _ _ _ _ _ _ _ _ _ _ _ _ _ _ _ _ _ _ _ _ _ _ _ _ _ _ _ _ _ _ _ _ _ _ _ _ _ _ _ _ _ _ _ _ _ _ _ _ _ _ _ _ _ _ _ _ _ _ _ _ _ _ _ _ _ _ _ _ _ _ _ _ _ _ _ _ _ _ _ _ _ _ _ _ _ _ _ _ _ _ _ _ _ _ _ _ _ _ _ _ _ _ _ _ _ _ _ _ _ _ _ _ _ _ _ _ _ _ _ _ _ _ _ _ _ _ _ _ _ _ _ _ _ _ _ _ _ _ _ _ _ _ _ _ _ _ _ _ _ _ _ _ _ _ _ _ _ _ _ _ _
end Go.Proofs.YthihnkgjkmaplaaGreatDoor.Tb
namespace Go.Proofs.YthihnkgjkmaplaaGreatDoor
open Go.RowKit Ck
open T3.Tp (Ty enc cns met sta)
open Tr (T Nd nm flat flats wf)
set_option maxRecDepth 100000
set_option linter.unusedSimpArgs false
set_option linter.unusedVariables false

/-- The program's answer is the document's. -/
theorem expr_same {l : List Nd} {N Th : List (List UInt8)} {r r' : List (List UInt8)} {er er' at' at'' : Int} (hx : Ex l N Th r er at') (hr : Rd false l N Th r' er' at'') : r' = r ∧ er' = er ∧ at'' = at' := by
  have key : ∀ (ts : List Ty) (t : T), envB N Th = true → (chkN l).1 = 0 → N.length = ts.length → Th = ts.map enc → l = flat t → kdT false (envOf N ts) t 0 = ckT (envOf N ts) t 0 := fun ts t hb h0 e1 e2 he => by
    obtain ⟨t', hw', he', hmay, _⟩ := chk_tree h0
    obtain ⟨ts', e1', e2', e3⟩ := envB_types hb
    obtain rfl : ts' = ts := encs_inj (e2'.symm.trans e2)
    exact (kdT_f t (envOf N ts') 0 (fun x hx => hmay x (by rw [he]; exact hx)) (envOk_of e3 e1)).1
  cases hx with
  | arg h =>
    cases hr with
    | arg _ => exact ⟨rfl, rfl, rfl⟩
    | tree h' => rw [h] at h'; cases h'
    | bad h' => rw [h] at h'; cases h'
    | good h' => rw [h] at h'; cases h'
  | tree h h1 =>
    cases hr with
    | arg h' => rw [h] at h'; cases h'
    | tree _ _ => exact ⟨rfl, rfl, rfl⟩
    | bad _ h' => exact absurd h' h1
    | good _ h' => exact absurd h' h1
  | bad h h1 ts t h2 h3 h4 h5 q h6 h7 =>
    have k1 := key ts t h h1 h2 h3 h5
    cases hr with
    | arg h' => rw [h] at h'; cases h'
    | tree _ h' => exact absurd h1 h'
    | bad _ _ ts' t' g2 g3 g4 g5 q' g6 =>
      obtain rfl : ts' = ts := encs_inj (g3.symm.trans h3)
      obtain rfl : t' = t := tree_one g4 h4 (g5.symm.trans h5)
      rw [k1, h6] at g6
      cases g6
      exact ⟨rfl, rfl, rfl⟩
    | good _ _ ts' t' g2 g3 g4 g5 x g6 =>
      obtain rfl : ts' = ts := encs_inj (g3.symm.trans h3)
      obtain rfl : t' = t := tree_one g4 h4 (g5.symm.trans h5)
      rw [k1, h6] at g6
      cases g6
  | good h h1 ts t h2 h3 h4 h5 a h6 h7 h8 =>
    have k1 := key ts t h h1 h2 h3 h5
    cases hr with
    | arg h' => rw [h] at h'; cases h'
    | tree _ h' => exact absurd h1 h'
    | bad _ _ ts' t' g2 g3 g4 g5 q' g6 =>
      obtain rfl : ts' = ts := encs_inj (g3.symm.trans h3)
      obtain rfl : t' = t := tree_one g4 h4 (g5.symm.trans h5)
      rw [k1, h6] at g6
      cases g6
    | good _ _ ts' t' g2 g3 g4 g5 x g6 =>
      obtain rfl : ts' = ts := encs_inj (g3.symm.trans h3)
      obtain rfl : t' = t := tree_one g4 h4 (g5.symm.trans h5)
      rw [k1, h6] at g6
      cases g6
      exact ⟨rfl, rfl, rfl⟩
/-- Expr's answer is a row of its own. -/
theorem own_ex {w' : World} {H n c : Nat} {a : Option Addr} {r : List (List UInt8)} (ht : T3.IsTexts w' (.slice a n c) r) (hn : n = r.length) (hl : n ≤ 1000) (h : a = none ∧ c = 0 ∨ ∃ b, a = some ⟨b, 0, none⟩ ∧ H ≤ b ∧ c = n ∧ Rw w' b n) : w'.ownsRow H 9 1 (.slice a n c) n (tcells r) := by
  have hlen : (tcells r).length = n * 1 := by unfold tcells; simp; omega
  refine ⟨hlen, ?_⟩
  rcases h with ⟨rfl, rfl⟩ | ⟨b, rfl, hb, rfl, cur, hc, hcs⟩
  · rcases ht with ⟨rfl, _⟩ | ⟨b, o, c', e, _⟩
    · subst hn; exact .inl ⟨rfl, rfl⟩
    · cases e
  · refine .inr ⟨b, c, cur, rfl, hb, hc, Nat.le_refl _, by unfold maxLen; omega, by omega, ?_⟩
    rw [Nat.mul_one, List.take_of_length_le (by simp; omega)]
    apply List.ext_getElem?
    intro j
    by_cases hj : j < c
    · obtain ⟨p, hp⟩ : ∃ p, r[j]? = some p := ⟨r[j]'(by omega), List.getElem?_eq_getElem (by omega)⟩
      obtain ⟨b', o', e, _, _, hcell⟩ := txs_at ht hp
      cases e
      rw [Nat.zero_add, (block_cells hc).1 j] at hcell
      rw [Array.getElem?_toList, hcell]
      unfold tcells
      rw [List.getElem?_map, hp]
      rfl
    · rw [List.getElem?_eq_none (by simp; omega), List.getElem?_eq_none (by omega)]
theorem addFirst8 (w : World) (la : Option Addr) (ln lc : Nat) :
    Calls Tryz.prog 11 #[.pointer (some ⟨w.heap.size, 0, none⟩), .slice la ln lc] (w.alloc (.cells Tb.bag0 53)) fun e w' => e = .returned (.tuple #[]) ∧ ∃ g cap, w'.heap[w.heap.size]? = some (.cells (Tb.bag0.setIfInBounds 4 (.slice (some ⟨g, 0, none⟩) 1 cap)) 53 (0, 0)) ∧ w'.ownsRow (w.heap.size + 1) 23 1 (.slice (some ⟨g, 0, none⟩) 1 cap) 1 [.slice la ln lc] ∧ (w.alloc (.cells Tb.bag0 53)).heap.size ≤ g ∧ Tb.Two (w.alloc (.cells Tb.bag0 53)) w' w.heap.size none := by
  refine (Tb.addTexts_any w.heap.size (w.heap.size + 1) 0 (w.alloc (.cells Tb.bag0 53)) (.slice none 0 0) la ln lc [] Tb.bag0 (heap_alloc_new _ _) rfl (own_nil _ _ _ _) (by decide) (by simp) (by simp [Value.ownBlock]) (by omega)).mono ?_
  rintro e w' ⟨rfl, g, cap, h1, h2, h3, h4⟩
  refine ⟨rfl, g, cap, h1, h2, ?_, h4⟩
  rcases h3 with h3 | h3
  · simp [Value.ownBlock] at h3
  · exact h3
theorem addNext8 (B : Nat) (w : World) (g c : Nat) (xs : List Value) (la : Option Addr) (ln lc : Nat) (hb : w.heap[B]? = some (.cells (Tb.bag0.setIfInBounds 4 (.slice (some ⟨g, 0, none⟩) 1 c)) 53 (0, 0))) (ho : w.ownsRow (B + 1) 23 1 (.slice (some ⟨g, 0, none⟩) 1 c) 1 xs) :
    Calls Tryz.prog 11 #[.pointer (some ⟨B, 0, none⟩), .slice la ln lc] w fun e w' => e = .returned (.tuple #[]) ∧ ∃ g2 c2, w'.heap[B]? = some (.cells ((Tb.bag0.setIfInBounds 4 (.slice (some ⟨g, 0, none⟩) 1 c)).setIfInBounds 4 (.slice (some ⟨g2, 0, none⟩) 2 c2)) 53 (0, 0)) ∧ w'.ownsRow (B + 1) 23 1 (.slice (some ⟨g2, 0, none⟩) 2 c2) 2 (xs ++ [.slice la ln lc]) ∧ Tb.Two w w' B (some g) := by
  have hlt := Tb.own_lt ho (b := g) rfl
  refine (Tb.addTexts_any B (B + 1) 1 w (.slice (some ⟨g, 0, none⟩) 1 c) la ln lc xs _ hb (by simp [Tb.bag0]) ho (by decide) (by omega) (by simp [Value.ownBlock]; omega) (by omega)).mono ?_
  rintro e w' ⟨he, g2, c2, h1, h2, h3, h4⟩
  exact ⟨he, g2, c2, h1, h2, h4⟩
theorem below_tb {w a b : World} {H B : Nat} {row : Option Nat} (h : Below H w a) (t : Tb.Two a b B row) (hB : H ≤ B) (hr : ∀ r, row = some r → H ≤ r) (hH : H ≤ a.heap.size) : Below H w b :=
  ⟨t.os.trans h.os, t.tape.trans h.tape, t.output.trans h.output, Nat.le_trans h.size t.size, fun k hk => (t.block k (by omega) (by omega) (fun e => by have := hr k e.symm; omega)).trans (h.block k hk)⟩
theorem txs_lower {w w' : World} {v : Value} {ps : List (List UInt8)} {H : Nat} (h : T3.IsTexts w v ps) (hlt : ∀ b o n c, v = .slice (some ⟨b, o, none⟩) n c → b < H) (hB : Below H w w') : T3.IsTexts w' v ps := by
  rcases h with h | ⟨b, o, c, rfl, h1, h2, h3⟩
  · exact .inl h
  · have hb := hlt b o _ c rfl
    exact .inr ⟨b, o, c, rfl, h1, Nat.lt_of_lt_of_le h2 hB.size, fun j p hp => (hB.cell (p := ⟨b, o + j, none⟩) hb).trans (h3 j p hp)⟩

set_option maxHeartbeats 16000000 in
theorem checkExprs_any (l : List Nd) (hf : Fits l) (N Th : List (List UInt8)) (hs : ∀ p ∈ N, p.length ≤ maxLen) (vL vN vT : Value) (w : World) (hl : IsNodes w vL l) (hn : T3.IsTexts w vN N) (ht : T3.IsTexts w vT Th) (hG : HasG w) (hg : 8 ≤ w.heap.size) (hTab : Tb.Tab w) :
    Calls Tryz.prog 3 #[.agg #[vL, vN, vT]] w fun e w' => e = .returned (.bool true) ∧ Below w.heap.size w w' := by
  obtain ⟨aL, cL, rfl⟩ := hl.form
  obtain ⟨aN, cN, rfl⟩ := txs_form hn
  obtain ⟨aT, cT, rfl⟩ := txs_form ht
  have hbx := CBox.new w (.slice aL l.length cL) (.slice aN N.length cN) (.slice aT Th.length cT) 25
  have hBw : Below w.heap.size w (w.alloc (.cells #[.slice aL l.length cL, .slice aN N.length cN, .slice aT Th.length cT] 25)) := (Below.refl _ _).alloc (Nat.le_refl _) _
  have hlg := caseLong_any l N Th aL aN aT cL cN cT
  go_enter Tryz.func3, Tryz.ntmps3
  go_upto_region 1 with fail
  have hl := hl.below hBw
  have hn := txs_below hn hBw
  have ht := txs_below ht hBw
  have hG := hG.below hBw
  have hg := Nat.le_trans hg hBw.size
  have hTab := hTab.on hBw
  have HBw : Aside (Below w.heap.size w _) := hBw
  clear hBw
  obtain ⟨cb, hcb⟩ : ∃ cb, cb = w.heap.size := ⟨_, rfl⟩
  generalize w.alloc _ = W0 at *
  rw [← hcb] at hbx ⊢
  clear hcb
  go_wp2_with fail
  go_at_call 5
  refine (works_any _ hG hg).mono ?_
  rintro e w1 ⟨rfl, hB1⟩
  obtain ⟨hlt1, p0, p1, p2⟩ := hbx.below hB1
  go_wp2_with fail
  go_at_call 6
  refine (hlg _).mono ?_
  rintro e w2 ⟨rfl, hB2⟩
  have hB := bt hB1 hB2
  clear hB1 hB2 p0 p1 p2 hlt1 hlg
  cases hlb : caseLB l N Th with
  | true =>
    go_wp2_with fail
    go_ret
    exact ⟨rfl, bt HBw.out hB⟩
  | false =>
  obtain ⟨n1, n2, n3⟩ := caseLong_no hlb
  clear hlb
  have hl := hl.below hB
  have hn := txs_below hn hB
  have ht := txs_below ht hB
  have hG := hG.below hB
  have hg := Nat.le_trans hg hB.size
  have hTab := hTab.on hB
  have hbx := hbx.below hB
  have HB2 : Aside (Below w.heap.size w w2) := bt HBw.out hB
  clear hB HBw
  have HC : Aside (∀ w', Below w2.heap.size w2 w' → CBox w' cb (.slice aL l.length cL) (.slice aN N.length cN) (.slice aT Th.length cT)) := fun w' h => hbx.below h
  have HL : Aside (∀ w', Below w2.heap.size w2 w' → IsNodes w' (.slice aL l.length cL) l ∧ T3.IsTexts w' (.slice aN N.length cN) N ∧ T3.IsTexts w' (.slice aT Th.length cT) Th ∧ HasG w' ∧ 8 ≤ w'.heap.size ∧ Tb.Tab w') := fun w' h => ⟨hl.below h, txs_below hn h, txs_below ht h, hG.below h, Nat.le_trans hg h.size, hTab.on h⟩
  obtain ⟨k0, k1, k2, k3⟩ := hbx
  have hwn := wideNodes_any l (by omega) _ w2 hl
  clear hl hn ht hG hg hTab
  -- the three lists with marks behind them
  go_wp2_with fail
  refine hwn.mono ?_
  rintro e w3 ⟨rfl, hW3, hB3⟩
  have hg0 := hW3.lt
  generalize w2.heap.size = g0 at hW3 hg0 ⊢
  clear hwn k0 k1 k2 k3
  obtain ⟨k0, k1, k2, k3⟩ := HC.out w3 hB3
  obtain ⟨_, hn3, _, _, _, hT3⟩ := HL.out w3 hB3
  have hwt := Tb.wideTexts_any N (by omega) _ w3 hn3 hT3
  clear hn3 hT3
  go_wp2_with fail
  refine hwt.mono ?_
  rintro e w4 ⟨rfl, hW4, hB4⟩
  have hg1 := hW4.lt
  have hA4 := bt hB3 hB4
  have hW34 := hW3.below hB4
  generalize w3.heap.size = g1 at hW4 hg1 ⊢
  clear hwt k0 k1 k2 k3
  obtain ⟨k0, k1, k2, k3⟩ := HC.out w4 hA4
  obtain ⟨_, _, ht4, _, _, hT4⟩ := HL.out w4 hA4
  have hwt := Tb.wideTexts_any Th (by omega) _ w4 ht4 hT4
  clear ht4 hT4
  go_wp2_with fail
  refine hwt.mono ?_
  rintro e w5 ⟨rfl, hW5, hB5⟩
  have hg2 := hW5.lt
  have hA5 := bt hA4 hB5
  have hN5 := hW34.below hB5
  have hM5 := hW4.below hB5
  generalize w4.heap.size = g2 at hW5 hg2 ⊢
  have hg0' := hN5.lt
  have hg1' := hM5.lt
  clear hwt k0 k1 k2 k3 hW34 hW3 hW4 hB3 hB4 hB5 hA4 hg0 hg1
  -- what the program answers, twice
  have HEX : Aside (∀ w', Below w5.heap.size w5 w' → Calls Tryz.prog 9 #[.slice (some ⟨g0, 0, none⟩) l.length (l.length + 64), .slice (some ⟨g1, 0, none⟩) N.length (N.length + 64), .slice (some ⟨g2, 0, none⟩) Th.length (Th.length + 64)] w' (ExEnd w' l N Th)) := fun w' h => by
    obtain ⟨_, _, _, q1, q2, _⟩ := HL.out w' (bt hA5 h)
    exact expr_any l hf N Th (by omega) hs _ _ _ w' (hN5.below h).nodes (hM5.below h).texts (hW5.below h).texts q1 q2
  have hx6 := HEX.out w5 (Below.refl _ _)
  go_wp2_with fail
  refine hx6.mono ?_
  rintro e w6 ⟨hB6, a6, m6, c6, r6, er6, at6, rfl, hx6e, hm6, ht6, _, hr6⟩
  have hx7 := HEX.out w6 hB6
  clear hx6
  go_wp2_with fail
  refine hx7.mono ?_
  rintro e w7 ⟨hB7, a7, m7, c7, r7, er7, at7, rfl, hx7e, hm7, ht7, _, hr7⟩
  have hA7 := bt hB6 hB7
  have hA27 := bt hA5 hA7
  clear hx7 HEX
  -- what the document answers
  obtain ⟨k0, k1, k2, k3⟩ := HC.out w7 hA27
  obtain ⟨hl7, hn7, ht7L, _, _, _⟩ := HL.out w7 hA27
  have hx8 := rexpr_any l hf (by omega) N Th n2 hs _ _ _ w7 hl7 hn7 ht7L
  clear hl7 hn7 ht7L
  go_wp2_with fail
  refine hx8.mono ?_
  rintro e w8 ⟨hB8, a8, m8, c8, r8, er8, at8, rfl, hr8, hm8, ht8⟩
  have s6 := expr_same hx6e hr8
  have s7 := expr_same hx7e hr8
  have hrl := hx6e.len (by omega)
  obtain ⟨rfl, rfl, rfl⟩ := s6
  obtain ⟨rfl, rfl, rfl⟩ := s7
  subst hm6 hm7 hm8
  have hz6 := hB6.size
  have hz7 := hB7.size
  have hoa7 := own_below (own_ex (H := w5.heap.size) ht6 rfl hrl hr6) hB7
  have hob7 := own_mono (own_ex (H := w6.heap.size) ht7 rfl hrl hr7) hz6
  have hab : ∀ x, (Value.slice a6 r8.length c6).ownBlock = some x → (Value.slice a7 r8.length c7).ownBlock ≠ some x := fun x hx hy => by
    have h1 := ((own_ex (H := w5.heap.size) ht6 rfl hrl hr6).lt x hx).2
    have h2 := ((own_ex (H := w6.heap.size) ht7 rfl hrl hr7).lt x hy).1
    omega
  have hoa := own_below hoa7 hB8
  have hob := own_below hob7 hB8
  have hA8 := bt hA7 hB8
  have hw8 : T3.IsTexts w8 (.slice a8 r8.length c8) r8 := ht8
  clear hx8 k0 k1 k2 k3 ht6 ht7 ht8 hr6 hr7 hr8 hx6e hx7e hoa7 hob7 hB6 hB7 hB8 hA7 hA27
  -- the bag
  have had := addFirst8 w8 a6 r8.length c6
  have hBa : ∀ o : Obj, Below w5.heap.size w5 (w8.alloc o) := fun o => hA8.alloc hA8.size o
  go_wp2_with fail
  go_at_call 11
  refine had.mono ?_
  rintro e w9 ⟨rfl, b1, c1, hb9, ho9, hg9, t9⟩
  have hB9 : Below w5.heap.size w5 w9 := below_tb (hBa _) t9 hA8.size (fun r e => by cases e) (hBa _).size
  have had2 := addNext8 w8.heap.size w9 b1 c1 _ a7 r8.length c7 hb9 ho9
  clear had
  go_wp2_with fail
  go_at_call 11
  refine had2.mono ?_
  rintro e w10 ⟨rfl, b2, c2, hb10, ho10, t10⟩
  have hz9 := t9.size
  simp at hz9 hg9
  have hB10 : Below w5.heap.size w5 w10 := below_tb hB9 t10 hA8.size (fun r e => by cases e; have := hA8.size; omega) hB9.size
  obtain ⟨hLn, hBr, hc2⟩ := Tb.ready (H := w5.heap.size) hoa hob (by omega) (by omega) hab ⟨a6, c6, rfl⟩ ⟨a7, c7, rfl⟩ (by simp; omega) t9 hb10 ho10 t10
  have hkeep : ∀ (v : Value) (xs : List Value) (n : Nat), w8.ownsRow w5.heap.size 9 1 v n xs → w10.ownsRow w5.heap.size 9 1 v n xs := fun v xs n h => by
    have hlt : ∀ x, v.ownBlock = some x → x < w8.heap.size := fun x hx => (Tb.own_lt h hx).2
    refine Tb.own_two (Tb.own_two (h.alloc (.cells Tb.bag0 53)) t9 ?_) t10 ?_
    · intro x hx; have := hlt x hx; exact ⟨by omega, by simp⟩
    · intro x hx; have := hlt x hx; exact ⟨by omega, by simp; omega⟩
  have hoa10 := hkeep _ _ _ hoa
  have hob10 := hkeep _ _ _ hob
  have hBw8 : Below w8.heap.size w8 w10 := below_tb (below_tb ((Below.refl _ _).alloc (Nat.le_refl _) _) t9 (Nat.le_refl _) (fun r e => by cases e) (by simp)) t10 (Nat.le_refl _) (fun r e => by cases e; omega) (by omega)
  have hwt10 := txs_below hw8 hBw8
  clear had2 hBa hkeep hoa hob t9 t10 hb9 ho9 hb10 ho10 hB9 hg9 hab hw8 hBw8
  have hE1 := eqTexts_same r8 (by omega) (.slice a6 r8.length c6) (.slice a8 r8.length c8) w10 (IsTexts.own hoa10) (show IsTexts w10 _ _ from hwt10)
  have hne1 : (er8 != er8) = false := by simp
  have hne2 : (at8 != at8) = false := by simp
  go_wp2_with fail
  refine hE1.mono ?_
  rintro e w12 ⟨rfl, m1, rfl⟩
  have hE2 := eqTexts_same r8 (by omega) (.slice a7 r8.length c7) (.slice a8 r8.length c8) (w10.drewN m1) (IsTexts.own (show (w10.drewN m1).ownsRow _ _ _ _ _ _ from hob10)) (show IsTexts (w10.drewN m1) _ _ from txs_below hwt10 (below_drewN (Below.refl _ _) m1))
  clear hE1
  go_wp2_with fail
  refine hE2.mono ?_
  rintro e w13 ⟨rfl, m2, rfl⟩
  clear hE2 hoa10 hob10 hwt10 hne1 hne2
  have hB13 : Below w10.heap.size w10 ((w10.drewN m1).drewN m2) := below_drewN (below_drewN (Below.refl _ _) m1) m2
  have hBr13 : Tb.Bare ((w10.drewN m1).drewN m2) w8.heap.size := hBr
  generalize (w10.drewN m1).drewN m2 = w13 at *
  have hA13 := bt hB10 hB13
  have hLn13 := Tb.lain_below hLn hB13
  obtain ⟨_, _, _, _, _, hT5⟩ := HL.out w5 hA5
  have hAp := Tb.apart_of w8.heap.size (fun w' => Below w5.heap.size w13 w') _ hBr13 ((Tb.apartTexts_any _ w5.heap.size w8.heap.size b2 2 c2 _ hLn13 hc2 hA13.size (fun w' h => hT5.on (hA13.trans h))).mono (fun e w' h => ⟨h.1, fun k hk h4 => (World.cell?_of_block h.2.bag).trans (hBr13 k hk h4), h.2.below⟩))
  clear hLn13 hBr13 hLn hBr hB13 hB10 hT5
  go_wp2_with fail
  refine hAp.mono ?_
  rintro e w20 ⟨rfl, hB20⟩
  clear hAp
  have hA20 := hA13.trans hB20
  clear hA13 hB20 hA8
  -- what was handed in
  obtain ⟨k0, k1, k2, k3⟩ := HC.out w20 (bt hA5 hA20)
  obtain ⟨hl20, hn20, ht20, _, _, hT20⟩ := HL.out w20 (bt hA5 hA20)
  have hq := eqNodes_same l hf.len _ _ w20 (hN5.below hA20).nodes hl20
  go_wp2_with fail
  refine hq.mono ?_
  rintro e w21 ⟨rfl, m, rfl⟩
  clear hq hl20 hn20 ht20 hT20 k0 k1 k2 k3
  have hA21 : Below w5.heap.size w5 (w20.drewN m) := below_drewN hA20 m
  have hsn := spareNodes_any l (by omega) g0 _ (hN5.below hA21)
  go_wp2_with fail
  refine hsn.mono ?_
  rintro e w22 ⟨rfl, hB22⟩
  have hA22 := bt hA21 hB22
  clear hsn hB22 hA21 hA20
  obtain ⟨k0, k1, k2, k3⟩ := HC.out w22 (bt hA5 hA22)
  obtain ⟨_, hn22, _, _, _, hT22⟩ := HL.out w22 (bt hA5 hA22)
  have hq := eqTexts_same N (by omega) _ _ w22 (hM5.below hA22).texts (show IsTexts w22 _ _ from hn22)
  clear hn22
  go_wp2_with fail
  refine hq.mono ?_
  rintro e w23 ⟨rfl, m3, rfl⟩
  clear hq k0 k1 k2 k3
  have hA23 : Below w5.heap.size w5 (w22.drewN m3) := below_drewN hA22 m3
  have hsp := Tb.spareTexts_any N (by omega) g1 _ (hM5.below hA23) (hT22.on (below_drewN (Below.refl _ _) m3))
  go_wp2_with fail
  refine hsp.mono ?_
  rintro e w24 ⟨rfl, hB24⟩
  have hA24 := bt hA23 hB24
  clear hsp hB24 hA23 hA22 hT22
  obtain ⟨k0, k1, k2, k3⟩ := HC.out w24 (bt hA5 hA24)
  obtain ⟨_, _, ht24, _, _, hT24⟩ := HL.out w24 (bt hA5 hA24)
  have hq := eqTexts_same Th (by omega) _ _ w24 (hW5.below hA24).texts (show IsTexts w24 _ _ from ht24)
  clear ht24
  go_wp2_with fail
  refine hq.mono ?_
  rintro e w25 ⟨rfl, m5, rfl⟩
  clear hq k0 k1 k2 k3
  have hA25 : Below w5.heap.size w5 (w24.drewN m5) := below_drewN hA24 m5
  have hsp := Tb.spareTexts_any Th (by omega) g2 _ (hW5.below hA25) (hT24.on (below_drewN (Below.refl _ _) m5))
  go_wp2_with fail
  refine hsp.mono ?_
  rintro e w26 ⟨rfl, hB26⟩
  have hA26 := bt hA25 hB26
  clear hsp hB26 hA25 hA24 hT24
  go_wp2_with fail
  go_ret
  exact ⟨rfl, bt HB2.out (bt hA5 hA26)⟩
end Go.Proofs.YthihnkgjkmaplaaGreatDoor
namespace Go.Proofs.YthihnkgjkmaplaaGreatDoor
open Go.ChangeShapes Go.WideShapes Go.ChangeAt Go.RowKit

/-- The seven variables that CheckExprs lists. -/
abbrev laidSeven : List (String × DataW Unit) := ("math/bits.deBruijn32tab", Rows.laid_math_bits_deBruijn32tab) :: ("math/bits.deBruijn64tab", Rows.laid_math_bits_deBruijn64tab) :: ("internal/strconv.uint64pow10", Rows.laid_internal_strconv_uint64pow10) :: laidAll
theorem laid_met7 (os : Os) (args : Array Value) : laidMetH Tryz.prog laidSeven ((World.laidAll Tryz.prog os laidSeven).forCall (fun _ _ => 0) ⟨#[], args, []⟩).memory := by
  rw [MakeChecks.laidMetH_plain _ _ _ (by kernel_rfl)]
  exact laidMet_laidAll _ (by kernel_rfl) (by kernel_rfl)
theorem gPow : Tryz.prog.globalNamed "internal/strconv.uint64pow10" = some 3 := by kernel_rfl
theorem tab_of_laid7 {W : World} (h : laidMetH Tryz.prog laidSeven W) : Tb.Tab W := by
  rw [MakeChecks.laidMetH_plain _ _ _ (by kernel_rfl)] at h
  exact Lib.tabIs_of_head (t := 210) (e := 186) (n := 20) gPow (by kernel_rfl) (by kernel_rfl) (by kernel_rfl) (by kernel_rfl) (by kernel_rfl) h.tail.tail
theorem all_of_laid7 {W : World} (h : laidMetH Tryz.prog laidSeven W) (hs : W.ShapedOpen Tryz.prog) : HasG W ∧ 8 ≤ W.heap.size := by
  refine all_of_laid ?_ hs
  rw [MakeChecks.laidMetH_plain _ _ _ (by kernel_rfl)] at h ⊢
  exact h.tail.tail.tail

set_option maxRecDepth 100000 in
theorem checkExprs_lifted (os : Os) (started : os.Started) (H : Type) (enc : TypeId × Value → H) :
    ReturnsInHanded {} Tryz.checked os 3 .any (fun w args => (Rows.checkExprsSpec.pre enc Tryz.prog Tryz.f3 [] false w args ∧ laidMetH Tryz.prog laidSeven w) ∧ sizedMet enc Tryz.prog Tryz.f3 (OpenSpec.ofChange Rows.checkExprsSpec) false w args)
      (Rows.checkExprsSpec.post enc Tryz.prog Tryz.f3 false true false false) := by
  refine handed_both (C := Tryz.checked) (X := fun w _ => laidMetH Tryz.prog laidSeven w) (fun _ _ _ hh h => h.of_heap hh) ownKnobs started (by kernel_rfl) Tryz.func3
    (ChangeSpec.witness_shaped (enc := enc) (C := Tryz.checked) (os := os) (X := fun w _ => laidMetH Tryz.prog laidSeven w) false (World.laidAll Tryz.prog os laidSeven) #[.agg #[.slice none 0 0, .slice none 0 0, .slice none 0 0]] 8 (World.laidAll_os _ _ _) (World.shaped_of_ZipB (by kernel_rfl) (by kernel_rfl)) (by kernel_rfl) (by kernel_rfl) (by kernel_rfl) (laid_met7 os _)) ?_
  intro W base args ds gs before hval0 hW hsz0 hL hsh
  have hsz : (DataW.weightsEach Tryz.prog (Tryz.f3.params.toList ++ Rows.checkExprsSpec.plain.varTypes Tryz.prog) (ds ++ gs)).all (· ≤ reachBytes) = true := hsz0
  clear hsz0
  have hval : ∀ (j : Nat) t v, Tryz.f3.params[j]? = some t → args[j]? = some v → Value.okWide Tryz.prog W .any base t v := hval0
  have hW' := hW
  obtain ⟨p, q, hA0, hV, rfl, hfz, hnd⟩ := hW
  have hA : DataW.TrodAll enc Tryz.prog W 0 (fun _ => true) true Tryz.f3.params.toList args.toList ds p := hA0
  rw [Tryz.params3] at hA hval hsz
  obtain ⟨v0, vs0, d0, ds0, p0, q0, hargs, rfl, rfl, h0, r0⟩ := trodAll_cons hA
  obtain ⟨rfl, rfl, rfl⟩ := trodAll_nil r0
  obtain rfl : args = #[v0] := by cases args; simp_all
  obtain ⟨rfl, rfl⟩ := trodVars_none hV
  have hmem : ∀ (j : Nat) t (d : DataW H), [25][j]? = some t → [d0][j]? = some d → ∀ n ∈ d.weights Tryz.prog t, n ≤ 140737488351232 := fun j t d ht hd n hn => by
    have := List.all_eq_true.1 hsz n (DataW.weights_mem_each (j := j) (t := t) (d := d) (by
      have hjl : j < 1 := (List.getElem?_eq_some_iff.1 ht).1
      rw [List.getElem?_append_left (by simpa using hjl)]; exact ht) (by
      have hjl : j < 1 := (List.getElem?_eq_some_iff.1 hd).1
      rw [List.getElem?_append_left (by simpa using hjl)]; exact hd) n hn)
    exact of_decide_eq_true this
  obtain ⟨fs, hu, _⟩ := fields_some csF
  obtain ⟨cs, rfl, hcsz⟩ := okWide_struct hu (hval 0 25 v0 rfl rfl)
  have k0 := h0
  have lt0 : ∀ x ∈ p0, x.block < W.heap.size := by obtain ⟨m, hm⟩ := k0; exact DataW.trod_lt m _ _ _ hm
  obtain ⟨vL, vN, vT, l, N, Th, rfl, hl, hF, hn, hns, ht, hts, hft⟩ : ∃ vL vN vT l N Th, cs = #[vL, vN, vT] ∧ IsNodes W vL l ∧ Fits l ∧ T3.IsTexts W vN N ∧ (∀ x ∈ N, x.length ≤ maxLen) ∧ T3.IsTexts W vT Th ∧ (∀ x ∈ Th, x.length ≤ maxLen) ∧ (∀ x ∈ l, x.t.size ≤ maxLen ∧ x.u.size ≤ maxLen) := by
    obtain ⟨fuel, hf⟩ := h0
    obtain ⟨vL, vN, vT, l, N, Th, hc, r⟩ := case_open2 hf (hmem 0 _ _ rfl rfl)
    refine ⟨vL, vN, vT, l, N, Th, ?_, r⟩
    obtain ⟨cl⟩ := cs
    simpa [Value.cells] using hc
  obtain ⟨hG, hg⟩ := all_of_laid7 hL hsh
  clear hA0 hval0
  refine (checkExprs_any l hF N Th hns vL vN vT W hl hn ht hG hg (tab_of_laid7 hL)).mono fun e W' ⟨he, bel⟩ => ?_
  subst he
  exact ⟨_, rfl, _, _, _, [], _, [], hW', trodAll_mk1 (shut_bool Tryz.underlying4 _), (trodAll_cons_mk (Below.trod laidOutAll (by kernel_rfl) (of_decide_eq_true (by kernel_rfl)) k0 bel lt0) trodAll_mk0), rfl, bel.frame _, fun h => by cases h⟩

theorem checkExprs_row : Rows.CheckExprsSaid :=
  OpenClaim.holds_of_wide 3 Tryz.f3 rfl rfl rfl rfl rfl rfl rfl ⟨rfl, rfl, rfl, rfl, rfl⟩ rfl rfl rfl rfl rfl (by kernel_rfl) Tryz.func3 (by kernel_rfl)
    (of_decide_eq_true (by kernel_rfl)) (by unfold Func.isWrapper; first | (rw [if_pos (by decide +kernel)]; kernel_rfl) | (rw [if_neg (by decide +kernel)]; exact ⟨rfl, rfl⟩))
    (fun os started H enc _ => checkExprs_lifted os started H enc)

theorem checkExprs_card : Rows.CheckExprsCardSaid :=
  Claim7.holds_tied_plain_at .later [] [.data, .data, .data, .data, .data, .data, .pinned] true (true, "57dd221464073c832b4b774df77a53e82c01ec60281cf35e2105423be44ec3ff") true
    checkExprs_row (fun _ h => by cases h) (by kernel_rfl) (fun _ h => by cases h) checkExprs_row_tie rfl ⟨rfl, rfl⟩ (by kernel_rfl) rfl
    (fun f fn hf hfn => by
      obtain rfl : f = 3 := Option.some.inj ((show Tryz.prog.funcNamed "culprit/culpritlaw08.CheckExprs" = some 3 by kernel_rfl).symm.trans hf) |>.symm
      obtain rfl : fn = Tryz.f3 := (Option.some.inj (Tryz.func3.symm.trans hfn)).symm
      exact ⟨by kernel_rfl, fun j t ht => by
        rw [Tryz.params3] at ht
        have hm : t ∈ [25] := by simpa using Array.mem_of_getElem? ht
        have hall : ([25].all fun u => !Tryz.prog.wantsStandIn u) = true := by kernel_rfl
        exact (show Tryz.prog.wantsStandIn t = false by simpa using List.all_eq_true.1 hall t hm)⟩)
    (by kernel_rfl)
#print axioms checkExprs_card
end Go.Proofs.YthihnkgjkmaplaaGreatDoor
