/- The walk of apartTexts: do all marks stand? -/
import Derived.Test.YtkcehgpcimlamaaGreatDoorTbApd
namespace Go.Proofs.YtkcehgpcimlamaaGreatDoor.Tb
open Go.RowKit

set_option maxRecDepth 100000 in
set_option maxHeartbeats 10000000 in
theorem apart_c (w wc : World) (H B g N cT q oc mc : Nat) (oa ma : Option Addr) (vs os ms : List Value) (ow : Nat → Nat) (hG : Gro wc ow H B g N cT vs q os ms) (hK : Kp w wc H B) (_hNc : N ≤ cT) (hH : H ≤ w.heap.size) (hTab : ∀ w', Below H w w' → Tab w') (hol : Aside (os.length = N)) (hml : Aside (ms.length = N)) (RO : Row wc ow H 25 2 (.slice oa N oc) N os) (RM : Row wc ow H 25 3 (.slice ma N mc) N ms) (K1 : Act → World → Prop) (hk1 : ∀ a w', Code.wp Tryz.prog end20 (bodyPost Tryz.prog Tryz.f28 fun e w' => e = .returned (.bool true) ∧ Kp w w' H B) a w' → K1 a w') (K : Act → World → Prop) (hk : ∀ a w', Code.wp Tryz.prog loop20 (Exit.then K1 (bodyPost Tryz.prog Tryz.f28 fun e w' => e = .returned (.bool true) ∧ Kp w w' H B)) a w' → K a w') (x1 x2 x3 x4 x7 x8 x9 x10 x11 x12 x13 x14 x15 x16 x17 x18 x19 x20 x21 x22 x23 x24 x25 x26 x27 x28 x29 x30 x31 x32 x33 x34 x35 x36 x37 x38 x39 x40 x41 x42 x43 x44 x45 x46 x47 x48 x49 x50 x51 x52 x53 x54 x55 x56 x57 x58 x59 x60 x61 x62 x63 x64 x65 x66 x67 x68 x69 x70 x71 x72 x73 x74 x75 x76 x77 x78 x79 x80 x81 x82 x83 x84 x85 x86 x87 x88 x89 x90 x91 x92 x93 x94 x95 x96 x97 x98 x99 x100 x101 x102 x103 x104 x105 x106 x107 x108 x109 x110 x111 x112 x113 x114 x115 x116 x117 x118 x119 x120 x121 x122 x123 x124 x125 x126 x127 x128 x129 x130 x131 x132 x133 x134 x135 x136 x137 x138 x139 x140 x141 x142 x143 x144 x145 x146 x147 x148 x149 x150 x151 x152 x153 x154 x155 x156 x157 x158 x159 x160 x161 x162 x163 x164 x165 x166 x167 x168 x169 x170 x171 x172 x173 x174 x175 x176 x177 x178 x179 x180 x181 x182 : Value) :
    Code.wp Tryz.prog set20 (Exit.then K (Exit.then K1 (bodyPost Tryz.prog Tryz.f28 fun e w' => e = .returned (.bool true) ∧ Kp w w' H B))) ⟨List.toArray (.pointer (some ⟨B, 0, none⟩) :: x1 :: x2 :: x3 :: x4 :: .slice oa N oc :: .slice ma N mc :: x7 :: x8 :: x9 :: x10 :: x11 :: x12 :: x13 :: x14 :: x15 :: x16 :: x17 :: x18 :: x19 :: x20 :: x21 :: x22 :: x23 :: x24 :: x25 :: x26 :: x27 :: x28 :: x29 :: x30 :: x31 :: x32 :: x33 :: x34 :: x35 :: x36 :: x37 :: x38 :: x39 :: x40 :: x41 :: x42 :: x43 :: x44 :: x45 :: x46 :: x47 :: x48 :: x49 :: x50 :: x51 :: x52 :: x53 :: x54 :: x55 :: x56 :: x57 :: x58 :: x59 :: x60 :: x61 :: x62 :: x63 :: x64 :: x65 :: x66 :: x67 :: x68 :: x69 :: x70 :: x71 :: x72 :: x73 :: x74 :: x75 :: x76 :: x77 :: x78 :: x79 :: x80 :: x81 :: x82 :: x83 :: x84 :: x85 :: x86 :: x87 :: x88 :: x89 :: x90 :: x91 :: x92 :: x93 :: x94 :: x95 :: x96 :: x97 :: x98 :: x99 :: x100 :: x101 :: x102 :: x103 :: x104 :: x105 :: x106 :: x107 :: x108 :: x109 :: x110 :: x111 :: x112 :: x113 :: x114 :: x115 :: x116 :: x117 :: x118 :: x119 :: x120 :: x121 :: x122 :: x123 :: x124 :: x125 :: x126 :: x127 :: x128 :: x129 :: x130 :: x131 :: x132 :: x133 :: x134 :: x135 :: x136 :: x137 :: x138 :: x139 :: x140 :: x141 :: x142 :: x143 :: x144 :: x145 :: x146 :: x147 :: x148 :: x149 :: x150 :: x151 :: x152 :: x153 :: x154 :: x155 :: x156 :: x157 :: x158 :: x159 :: x160 :: x161 :: x162 :: x163 :: x164 :: x165 :: x166 :: x167 :: x168 :: x169 :: x170 :: x171 :: x172 :: x173 :: x174 :: x175 :: x176 :: x177 :: x178 :: x179 :: x180 :: x181 :: x182 :: []), []⟩ wc := by
  conv => arg 2; whnf
  conv at hk => enter [a, w', 1, 2]; whnf
  conv at hk1 => enter [a, w', 1, 2]; whnf
  have hN := hG.few
  have hHl : H ≤ wc.heap.size := Nat.le_trans hH hK.below.size
  have hBl : B < wc.heap.size := World.block_lt_of_cell? wc _ hG.bag
  have hcur : Below wc.heap.size wc wc := Below.refl _ _
  go_wp2_with fail
  go_loopg [10] N (fun gh nv wr => ∃ n : Nat, n + gh = N ∧ nv = .int .i64 n ∧ Below wc.heap.size wc wr)
  case atStart => exact ⟨0, by omega, rfl, hcur⟩
  case round =>
    clear hcur
    obtain ⟨n, hng, rfl, hcur⟩ := hrel
    by_cases hn : n < N
    · have hn' : (n : Int) < (N : Int) := by omega
      have hn0 : (0 : Int) ≤ (n : Int) := by omega
      have hnm : n < ms.length := by rw [hml.out]; exact hn
      have hno : n < os.length := by rw [hol.out]; exact hn
      have hms := List.getElem?_eq_getElem hnm
      generalize ms[n] = mv at hms
      obtain ⟨la, L, lc, hv, b2, c2, rfl, hc2, -, hmc⟩ := hG.more n mv hms
      have hos := List.getElem?_eq_getElem hno
      generalize os[n] = ov at hos
      obtain ⟨la', L', lc', hv', b1, c1, rfl, hc1, -, hoc⟩ := hG.one n ov hos
      obtain ⟨rfl, rfl, rfl⟩ : la = la' ∧ L = L' ∧ lc = lc' := by rw [hv] at hv'; simpa using hv'
      obtain ⟨_, _, _, e', hL6, -, hrow⟩ := hG.row n _ hv
      obtain ⟨rfl, rfl, rfl⟩ := by simpa using e'
      obtain ⟨mb, mc', e1, -, hmcell⟩ := own_form RM.own (by omega)
      obtain ⟨rfl, rfl⟩ : ma = some ⟨mb, 0, none⟩ ∧ mc = mc' := by simpa using e1
      obtain ⟨ob, oc', e2, -, hocell⟩ := own_form RO.own (by omega)
      obtain ⟨rfl, rfl⟩ : oa = some ⟨ob, 0, none⟩ ∧ oc = oc' := by simpa using e2
      have hm1 := (hmcell n hn).trans hms
      have ho1 := (hocell n hn).trans hos
      have hg1 := hG.cell n _ hv
      have hb1 := hG.bag
      obtain ⟨-, hmN, -⟩ := row_cell RM hms
      obtain ⟨-, hoN, -⟩ := row_cell RO hos
      clear hmcell hocell hms hos hv hv' e1 e2 e'
      have hm1r := (hcur.cell (p := ⟨mb, n, none⟩) (World.block_lt_of_cell? _ _ hm1)).trans hm1
      go_wp2_with fail
      clear hm1r
      go_loopg [11] (L + 70) (fun gh iv wr => ∃ i : Nat, i + gh = L + 70 ∧ iv = .int .i64 i ∧ Below wc.heap.size wc wr)
      case atStart => exact ⟨0, by omega, rfl, hcur⟩
      case round =>
        clear hcur
        obtain ⟨i, hig, rfl, hcur⟩ := hrel
        have fm := (hcur.cell (p := ⟨mb, n, none⟩) (World.block_lt_of_cell? _ _ hm1)).trans hm1
        have fo := (hcur.cell (p := ⟨ob, n, none⟩) (World.block_lt_of_cell? _ _ ho1)).trans ho1
        have fg := (hcur.cell (p := ⟨g, n, none⟩) (World.block_lt_of_cell? _ _ hg1)).trans hg1
        have fb := (hcur.cell (p := ⟨B, 4, none⟩) (World.block_lt_of_cell? _ _ hb1)).trans hb1
        by_cases hi : i < L + 70
        · have hi' : (i : Int) < ((L + 70 : Nat) : Int) := by omega
          have hi'' : (i : Int) < (L : Int) + 70 := by omega
          have hi0 : (0 : Int) ≤ (i : Int) := by omega
          have hmi := hmc i hi
          have fc := (hcur.cell (p := ⟨b2, i, none⟩) (World.block_lt_of_cell? _ _ hmi)).trans hmi
          have hX := text_any n i (by omega) (by omega)
          clear hm1 ho1 hg1 hb1 hmc hmi
          by_cases hiL : i < L
          · have hiL' : (i : Int) < (L : Int) := by omega
            have hne : ((i : Int) == (L : Int)) = false := by simp; omega
            obtain ⟨b0, rfl, hlc, hr⟩ := hrow i hiL
            have fr := (hcur.cell (p := ⟨b0, i, none⟩) (World.block_lt_of_cell? _ _ hr)).trans hr
            clear hr hoc hrow
            go_wp2_with (first | (go_at_call 56; refine (hX _ (hTab _ (hK.below.trans (hcur.mono hHl)))).mono ?_; rintro e w' ⟨rfl, hB'⟩; have fm := (hB'.cell (p := ⟨mb, n, none⟩) (World.block_lt_of_cell? _ _ fm)).trans fm; have fc := (hB'.cell (p := ⟨b2, i, none⟩) (World.block_lt_of_cell? _ _ fc)).trans fc; have hcur := hcur.trans (hB'.mono hcur.size); clear hB'))
            go_roundg (gk - 1)
            case measure => omega
            case rel => exact ⟨i + 1, by omega, by go_num, hcur⟩
          · have hiL' : decide ((i : Int) < (L : Int)) = false := by simp; omega
            by_cases hE : i = L
            · subst hE
              have fr := (hcur.cell (p := ⟨b1, i, none⟩) (World.block_lt_of_cell? _ _ hoc)).trans hoc
              have hi1 : (i : Int) < (i : Int) + 1 := by omega
              have hi2 : (i : Int) < ((i + 1 : Nat) : Int) := by omega
              clear hoc hrow
              go_wp2_with (first | (go_at_call 56; refine (hX _ (hTab _ (hK.below.trans (hcur.mono hHl)))).mono ?_; rintro e w' ⟨rfl, hB'⟩; have fm := (hB'.cell (p := ⟨mb, n, none⟩) (World.block_lt_of_cell? _ _ fm)).trans fm; have fc := (hB'.cell (p := ⟨b2, i, none⟩) (World.block_lt_of_cell? _ _ fc)).trans fc; have hcur := hcur.trans (hB'.mono hcur.size); clear hB'))
              go_roundg (gk - 1)
              case measure => omega
              case rel => exact ⟨i + 1, by omega, by go_num, hcur⟩
            · have hne : ((i : Int) == (L : Int)) = false := by simp; omega
              clear hoc hrow
              go_wp2_with (first | (go_at_call 56; refine (hX _ (hTab _ (hK.below.trans (hcur.mono hHl)))).mono ?_; rintro e w' ⟨rfl, hB'⟩; have fm := (hB'.cell (p := ⟨mb, n, none⟩) (World.block_lt_of_cell? _ _ fm)).trans fm; have fc := (hB'.cell (p := ⟨b2, i, none⟩) (World.block_lt_of_cell? _ _ fc)).trans fc; have hcur := hcur.trans (hB'.mono hcur.size); clear hB'))
              go_roundg (gk - 1)
              case measure => omega
              case rel => exact ⟨i + 1, by omega, by go_num, hcur⟩
        · have hi' : decide ((i : Int) < ((L + 70 : Nat) : Int)) = false := by simp; omega
          have hi'' : decide ((i : Int) < (L : Int) + 70) = false := by simp; omega
          go_wp2_with fail
          go_roundg (N - (n + 1))
          case measure => omega
          case rel => exact ⟨n + 1, by omega, by go_num, hcur⟩
    · have hn' : decide ((n : Int) < (N : Int)) = false := by simp; omega
      go_wp2_with fail
      go_ret
      exact ⟨rfl, kp_below hK hcur hHl hBl⟩

end Go.Proofs.YtkcehgpcimlamaaGreatDoor.Tb
